/-
  The plain mathematics of a merge: lists that rise, and what is put into one. It speaks of no program.
-/
import Derived.Test.YtiknghbfigophaaBools
import Derived.Lib.SlicesCompact
namespace Go.Proofs.Ytiknghbfigophaa
open Go.RowKit

/-- The numbers above 0. -/
def posL (L : List Int) : List Int := L.filter (fun x => decide (0 < x))
def sortL (L : List Int) : List Int := L.mergeSort (fun x y => decide (x ≤ y))
/-- All numbers above 0, rising, each once. -/
def mergeL (L : List Int) : List Int := Lib.compact (sortL (posL L))
def Up (L : List Int) : Prop := L.Pairwise (· < ·)

theorem sortL_length (L : List Int) : (sortL L).length = L.length := List.length_mergeSort L
theorem sortL_mem (L : List Int) (x : Int) : x ∈ sortL L ↔ x ∈ L := (List.mergeSort_perm L _).mem_iff
theorem sortL_up (L : List Int) : (sortL L).Pairwise (· ≤ ·) := by
  refine (List.pairwise_mergeSort (le := fun x y : Int => decide (x ≤ y)) ?_ ?_ L).imp ?_
  · intro a b c h1 h2; simp only [decide_eq_true_eq] at *; omega
  · intro a b; simp only [Bool.or_eq_true, decide_eq_true_eq]; omega
  · intro a b h; simpa using h
theorem posL_mem (L : List Int) (x : Int) : x ∈ posL L ↔ x ∈ L ∧ 0 < x := by simp [posL]
theorem posL_app (L M : List Int) : posL (L ++ M) = posL L ++ posL M := by simp [posL]
theorem posL_le (L : List Int) : (posL L).length ≤ L.length := List.length_filter_le _ _
theorem posL_yes (L : List Int) (x : Int) (h : 0 < x) : posL (L ++ [x]) = posL L ++ [x] := by simp [posL, h]
theorem posL_no (L : List Int) (x : Int) (h : ¬ 0 < x) : posL (L ++ [x]) = posL L := by simp [posL, h]

theorem compact_mem {d : Array Int} : ∀ m, m ≤ d.size → ∀ x, (x ∈ Lib.compactUpTo d m ↔ ∃ j, j < m ∧ d[j]! = x)
  | 0, _, x => by simp [Lib.compactUpTo]
  | m + 1, hm, x => by
    have ih := compact_mem (d := d) m (by omega) x
    rw [Lib.compactUpTo_succ, List.mem_append, ih]
    constructor
    · rintro (⟨j, hj, e⟩ | h)
      · exact ⟨j, by omega, e⟩
      · split at h
        · simp at h; exact ⟨m, by omega, h.symm⟩
        · cases h
    · rintro ⟨j, hj, e⟩
      by_cases hjm : j = m
      · subst hjm
        by_cases hk : Lib.keeps d j = true
        · right; rw [if_pos hk]; simp [e]
        · left
          have h0 : ¬ (j = 0 ∨ d[j]! ≠ d[j - 1]!) := by simpa [Lib.keeps] using hk
          have h1 : d[j]! = d[j - 1]! := by
            rcases Decidable.em (d[j]! = d[j - 1]!) with h | h
            · exact h
            · exact absurd (Or.inr h) h0
          exact ⟨j - 1, by omega, by rw [← h1]; exact e⟩
      · exact .inl ⟨j, by omega, e⟩
theorem compact_up {d : Array Int} (hd : ∀ i j, i ≤ j → j < d.size → d[i]! ≤ d[j]!) : ∀ m, m ≤ d.size → Up (Lib.compactUpTo d m)
  | 0, _ => by simp [Lib.compactUpTo, Up]
  | m + 1, hm => by
    have ih := compact_up hd m (by omega)
    rw [Lib.compactUpTo_succ]
    by_cases hk : Lib.keeps d m = true
    · rw [if_pos hk]
      refine List.pairwise_append.2 ⟨ih, by simp, fun a ha b hb => ?_⟩
      simp at hb
      subst hb
      obtain ⟨j, hj, rfl⟩ := (compact_mem m (by omega) a).1 ha
      have h0 : m = 0 ∨ d[m]! ≠ d[m - 1]! := by simpa [Lib.keeps] using hk
      have h1 := hd j (m - 1) (by omega) (by omega)
      have h2 := hd (m - 1) m (by omega) (by omega)
      rcases h0 with h0 | h0
      · omega
      · omega
    · rw [if_neg hk, List.append_nil]; exact ih
theorem compact_mem' (L : List Int) (x : Int) : x ∈ Lib.compact L ↔ x ∈ L := by
  unfold Lib.compact
  rw [compact_mem L.length (by simp)]
  constructor
  · rintro ⟨j, hj, rfl⟩
    simp [hj]
  · intro h
    obtain ⟨j, hj, rfl⟩ := List.mem_iff_getElem.1 h
    exact ⟨j, hj, by simp [hj]⟩
theorem mergeL_up (L : List Int) : Up (mergeL L) := by
  unfold mergeL Lib.compact
  refine compact_up (fun i j hij hj => ?_) _ (by simp)
  have hs := sortL_up (posL L)
  generalize sortL (posL L) = M at *
  have hj' : j < M.length := by simpa using hj
  rcases Nat.lt_or_ge i j with h | h
  · have := (List.pairwise_iff_getElem.1 hs) i j (by omega) hj' h
    simpa [hj', show i < M.length by omega] using this
  · obtain rfl : i = j := by omega
    exact Int.le_refl _
theorem mergeL_mem (L : List Int) (x : Int) : x ∈ mergeL L ↔ x ∈ L ∧ 0 < x := by
  unfold mergeL
  rw [compact_mem', sortL_mem, posL_mem]
theorem compact_le (L : List Int) : (Lib.compact L).length ≤ L.length := by
  unfold Lib.compact Lib.compactUpTo
  simp only [List.length_map]
  exact Nat.le_trans (List.length_filter_le _ _) (by simp)
theorem mergeL_le (L : List Int) : (mergeL L).length ≤ L.length := by
  unfold mergeL
  have h1 := compact_le (sortL (posL L))
  rw [sortL_length] at h1
  exact Nat.le_trans h1 (posL_le L)

/-- Two lists that rise are one if they have the same numbers. -/
theorem up_ext : ∀ {L M : List Int}, Up L → Up M → (∀ x, x ∈ L ↔ x ∈ M) → L = M
  | [], [], _, _, _ => rfl
  | [], b :: M, _, _, h => by have := (h b).2 (by simp); cases this
  | a :: L, [], _, _, h => by have := (h a).1 (by simp); cases this
  | a :: L, b :: M, hL, hM, h => by
    obtain ⟨h1, h2⟩ := List.pairwise_cons.1 hL
    obtain ⟨h3, h4⟩ := List.pairwise_cons.1 hM
    have hab : a = b := by
      have ha := (h a).1 (by simp)
      have hb := (h b).2 (by simp)
      rcases List.mem_cons.1 ha with e | e
      · exact e
      · rcases List.mem_cons.1 hb with e' | e'
        · exact e'.symm
        · have := h3 a e; have := h1 b e'; omega
    subst hab
    congr 1
    refine up_ext h2 h4 (fun x => ⟨fun hx => ?_, fun hx => ?_⟩)
    · rcases List.mem_cons.1 ((h x).1 (List.mem_cons_of_mem _ hx)) with e | e
      · have := h1 x hx; omega
      · exact e
    · rcases List.mem_cons.1 ((h x).2 (List.mem_cons_of_mem _ hx)) with e | e
      · have := h3 x hx; omega
      · exact e

/-- How many at the front are below x. -/
def lowN (L : List Int) (x : Int) : Nat := (L.takeWhile (fun y => decide (y < x))).length
/-- A rising list, and a number, once. -/
def withL (L : List Int) (x : Int) : List Int := if L[lowN L x]? = some x then L else L.take (lowN L x) ++ [x] ++ L.drop (lowN L x)
theorem lowN_le (L : List Int) (x : Int) : lowN L x ≤ L.length := (List.takeWhile_sublist _).length_le
theorem lowN_yes : ∀ (L : List Int) (x : Int) (i : Nat), i < lowN L x → L[i]?.getD 0 < x
  | [], x, i, h => by simp [lowN] at h
  | a :: L, x, i, h => by
    unfold lowN at h
    rw [List.takeWhile_cons] at h
    split at h
    · rename_i ha
      rcases i with _ | i
      · simpa using ha
      · simpa using lowN_yes L x i (by simpa [lowN] using h)
    · simp at h
theorem lowN_no : ∀ (L : List Int) (x : Int), lowN L x < L.length → ¬ L[lowN L x]?.getD 0 < x
  | [], x, h => by simp [lowN] at h
  | a :: L, x, h => by
    unfold lowN at h ⊢
    rw [List.takeWhile_cons] at h ⊢
    split at h
    · rename_i ha
      rw [if_pos ha]
      simp only [List.length_cons, List.getElem?_cons_succ] at h ⊢
      exact lowN_no L x (by simpa [lowN] using h)
    · rename_i ha
      rw [if_neg ha]
      simpa using ha
theorem lowN_is (L : List Int) (x : Int) (k : Nat) (hk : k ≤ L.length) (h1 : ∀ i, i < k → L[i]?.getD 0 < x) (h2 : k < L.length → ¬ L[k]?.getD 0 < x) : lowN L x = k := by
  have h3 := lowN_le L x
  rcases Nat.lt_trichotomy (lowN L x) k with h | h | h
  · exact absurd (h1 _ h) (lowN_no L x (by omega))
  · exact h
  · exact absurd (lowN_yes L x k h) (h2 (by omega))
theorem up_get {L : List Int} (h : Up L) {i j : Nat} (hij : i < j) (hj : j < L.length) : L[i]?.getD 0 < L[j]?.getD 0 := by
  have := (List.pairwise_iff_getElem.1 h) i j (by omega) hj hij
  simpa [hj, show i < L.length by omega] using this
theorem withL_mem {L : List Int} (x y : Int) : y ∈ withL L x ↔ y ∈ L ∨ y = x := by
  unfold withL
  split
  · rename_i h
    have := List.mem_of_getElem? h
    constructor
    · exact .inl
    · rintro (h | rfl)
      · exact h
      · exact this
  · have e : y ∈ L ↔ y ∈ L.take (lowN L x) ∨ y ∈ L.drop (lowN L x) := by
      rw [← List.mem_append, List.take_append_drop]
    rw [e]
    simp only [List.mem_append, List.mem_singleton]
    constructor
    · rintro ((h | h) | h)
      · exact .inl (.inl h)
      · exact .inr h
      · exact .inl (.inr h)
    · rintro ((h | h) | h)
      · exact .inl (.inl h)
      · exact .inr h
      · exact .inl (.inr h)
theorem withL_up {L : List Int} (hL : Up L) (x : Int) : Up (withL L x) := by
  unfold withL
  split
  · exact hL
  · rename_i hne
    have hle := lowN_le L x
    have hlow : ∀ y, y ∈ L.take (lowN L x) → y < x := by
      intro y hy
      obtain ⟨i, hi, rfl⟩ := List.mem_iff_getElem.1 hy
      rw [List.length_take] at hi
      have := lowN_yes L x i (by omega)
      simpa [show i < L.length by omega] using this
    have hhigh : ∀ y, y ∈ L.drop (lowN L x) → x < y := by
      intro y hy
      obtain ⟨i, hi, rfl⟩ := List.mem_iff_getElem.1 hy
      rw [List.length_drop] at hi
      have h0 := lowN_no L x (by omega)
      have hlt : lowN L x < L.length := by omega
      have h1 : L[lowN L x]?.getD 0 ≠ x := by
        intro e
        apply hne
        rw [List.getElem?_eq_getElem hlt] at e ⊢
        simpa using e
      have h2 : L[lowN L x]?.getD 0 ≤ L[lowN L x + i]?.getD 0 := by
        rcases Nat.eq_zero_or_pos i with rfl | hp
        · exact Int.le_refl _
        · exact Int.le_of_lt (up_get hL (by omega) (by omega))
      have h3 : (L.drop (lowN L x))[i] = L[lowN L x + i]?.getD 0 := by simp [show lowN L x + i < L.length by omega]
      rw [h3]; omega
    refine List.pairwise_append.2 ⟨List.pairwise_append.2 ⟨hL.sublist (List.take_sublist _ _), by simp, ?_⟩, hL.sublist (List.drop_sublist _ _), ?_⟩
    · intro a ha b hb
      simp at hb; subst hb
      exact hlow a ha
    · intro a ha b hb
      rcases List.mem_append.1 ha with h | h
      · have := hlow a h; have := hhigh b hb; omega
      · simp at h; subst h; exact hhigh b hb
theorem withL_le (L : List Int) (x : Int) : (withL L x).length ≤ L.length + 1 := by
  unfold withL
  split
  · omega
  · simp; have := lowN_le L x; omega
def foldW (L : List Int) : List Int := L.foldl withL []
theorem foldW_snoc (L : List Int) (x : Int) : foldW (L ++ [x]) = withL (foldW L) x := by simp [foldW]
theorem foldW_le (L : List Int) : (foldW L).length ≤ L.length := by
  suffices h : ∀ (L M : List Int), (L.foldl withL M).length ≤ M.length + L.length by simpa [foldW] using h L []
  intro L
  induction L with
  | nil => intro M; simp
  | cons x L ih => intro M; have h1 := ih (withL M x); have h2 := withL_le M x; simp only [List.foldl_cons, List.length_cons]; omega
theorem foldW_mem (L : List Int) (x : Int) : x ∈ foldW L ↔ x ∈ L := by
  suffices h : ∀ (L M : List Int), x ∈ L.foldl withL M ↔ x ∈ M ∨ x ∈ L by simpa [foldW] using h L []
  intro L
  induction L with
  | nil => intro M; simp
  | cons y L ih => intro M; rw [List.foldl_cons, ih, withL_mem, List.mem_cons, or_assoc]
theorem foldW_up (L : List Int) : Up (foldW L) := by
  suffices h : ∀ (L M : List Int), Up M → Up (L.foldl withL M) by exact h L [] List.Pairwise.nil
  intro L
  induction L with
  | nil => intro M h; exact h
  | cons y L ih => intro M h; exact ih _ (withL_up h y)
/-- One by one, or all at once: the same. -/
theorem foldW_merge (L : List Int) : foldW (posL L) = mergeL L :=
  up_ext (foldW_up _) (mergeL_up L) (fun x => by rw [foldW_mem, posL_mem, mergeL_mem])
theorem mergeL_ext {L M : List Int} (h : ∀ x, 0 < x → (x ∈ L ↔ x ∈ M)) : mergeL L = mergeL M :=
  up_ext (mergeL_up L) (mergeL_up M) (fun x => by rw [mergeL_mem, mergeL_mem]; exact ⟨fun ⟨a, b⟩ => ⟨(h x b).1 a, b⟩, fun ⟨a, b⟩ => ⟨(h x b).2 a, b⟩⟩)
theorem mergeL_bd {L : List Int} (h : ∀ x, x ∈ L → x ≤ 9223372036854775807) : ∀ i : Nat, -9223372036854775808 ≤ (mergeL L)[i]?.getD 0 ∧ (mergeL L)[i]?.getD 0 ≤ 9223372036854775807 := by
  intro i
  by_cases hi : i < (mergeL L).length
  · have hm : (mergeL L)[i]?.getD 0 ∈ mergeL L := by simp [hi]
    obtain ⟨h1, h2⟩ := (mergeL_mem L _).1 hm
    have := h _ h1
    omega
  · rw [List.getElem?_eq_none (by omega)]; simp

end Go.Proofs.Ytiknghbfigophaa
