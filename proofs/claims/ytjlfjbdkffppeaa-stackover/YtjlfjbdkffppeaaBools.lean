/-
  Plain facts on rows of bools: what is so, the next one, a run, how many; and such a row in memory. They speak of no program.
-/
import Derived.Test.YtjlfjbdkffppeaaBase
namespace Go.Proofs.Ytjlfjbdkffppeaa
open Go.RowKit

/-- Bools as cells. -/
def bools (xs : List Bool) : List Value := xs.map Value.bool
theorem bools_length (xs : List Bool) : (bools xs).length = xs.length := by simp [bools]
theorem bools_get (xs : List Bool) (i : Nat) (h : i < xs.length) : (bools xs)[i]? = some (.bool (xs[i]?.getD false)) := by
  simp [bools, h]
theorem bools_set (xs : List Bool) (i : Nat) (x : Bool) : (bools xs).set i (.bool x) = bools (xs.set i x) := by
  simp [bools, List.map_set]
/-- So many that are not so. -/
def offs (n : Nat) : List Bool := List.replicate n false
theorem offs_length (n : Nat) : (offs n).length = n := by simp [offs]
theorem offs_get (n i : Nat) : (offs n)[i]?.getD false = false := by
  rw [offs, List.getElem?_replicate]; split <;> rfl
theorem bools_made (n : Nat) : madeCells #[.bool false] n = (bools (offs n)).toArray := by
  apply Array.toList_inj.1
  rw [toList_madeCells_one]
  simp [bools, offs]
theorem bset_same (xs : List Bool) (i : Nat) (x : Bool) (h : i < xs.length) : (xs.set i x)[i]?.getD false = x := by
  simp [h]
theorem bset_other (xs : List Bool) (i j : Nat) (x : Bool) (h : i ≠ j) : (xs.set i x)[j]?.getD false = xs[j]?.getD false := by
  simp [h]
theorem beq_of_getD {xs ys : List Bool} (hl : xs.length = ys.length) (h : ∀ t : Nat, xs[t]?.getD false = ys[t]?.getD false) : xs = ys := by
  apply List.ext_getElem hl
  intro i h1 h2
  have := h i
  simpa [h1, h2] using this

/-- A row of bools that may be written: block g, of elements of type t. -/
def BRow (w : World) (t : TypeId) (g : Nat) (xs : List Bool) : Prop := w.heap[g]? = some (.cells (bools xs).toArray t (0, 0))

theorem BRow.lt {w : World} {t : TypeId} {g : Nat} {xs : List Bool} (h : BRow w t g xs) : g < w.heap.size := lt_of_block h
theorem BRow.cell {w : World} {t : TypeId} {g : Nat} {xs : List Bool} (h : BRow w t g xs) {i : Nat} (hi : i < xs.length) : w.cell? ⟨g, i, none⟩ = some (.bool (xs[i]?.getD false)) := by
  have h' : w.heap[g]? = some (.cells (bools xs).toArray t (0, 0)) := h
  have := bools_get xs i hi
  simp [World.cell?, h', this]
theorem BRow.free {w : World} {t : TypeId} {g : Nat} {xs : List Bool} (h : BRow w t g xs) (i : Nat) : w.frozen? ⟨g, i, none⟩ = false := by
  have h' : w.heap[g]? = some (.cells (bools xs).toArray t (0, 0)) := h
  simp [World.frozen?, h']
theorem BRow.keep {S : List Nat} {w w' : World} {t : TypeId} {g : Nat} {xs : List Bool} (h : BRow w t g xs) (k : Keep S w w') (hS : g ∉ S) : BRow w' t g xs := k.blk h hS
theorem BRow.put {w : World} {t : TypeId} {g : Nat} {xs : List Bool} (h : BRow w t g xs) (i : Nat) (x : Bool) : BRow (w.setCell ⟨g, i, none⟩ (.bool x)) t g (xs.set i x) := by
  have := heap_setCell_same w g i (bools xs).toArray t (.bool x) h
  rw [show ((bools xs).toArray.setIfInBounds i (.bool x)) = (bools (xs.set i x)).toArray from by simp [← bools_set]] at this
  exact this
theorem BRow.made (w : World) (t : TypeId) (n : Nat) : BRow (w.alloc (.cells (madeCells #[.bool false] n) t)) t w.heap.size (offs n) := by
  rw [bools_made]; exact heap_alloc_new w _

/-- The first place of l, the first of which is i, that is v; -1: there is none. -/
def nextL : List Bool → Bool → Nat → Int
  | [], _, _ => -1
  | x :: l, v, i => if x = v then (i : Int) else nextL l v (i + 1)
/-- The first place from i on that is v. -/
def nextR (xs : List Bool) (i : Nat) (v : Bool) : Int := nextL (xs.drop i) v i

theorem drop_at (xs : List Bool) (i : Nat) (h : i < xs.length) : xs.drop i = (xs[i]?.getD false) :: xs.drop (i + 1) := by
  rw [List.drop_eq_getElem_cons h]; simp [h]
theorem nextR_end (xs : List Bool) (i : Nat) (v : Bool) (h : xs.length ≤ i) : nextR xs i v = -1 := by
  unfold nextR; rw [List.drop_eq_nil_of_le h]; rfl
theorem nextR_yes (xs : List Bool) (i : Nat) (v : Bool) (h : i < xs.length) (hv : xs[i]?.getD false = v) : nextR xs i v = i := by
  unfold nextR; rw [drop_at xs i h, hv]; simp [nextL]
theorem nextR_no (xs : List Bool) (i : Nat) (v : Bool) (h : i < xs.length) (hv : xs[i]?.getD false ≠ v) : nextR xs i v = nextR xs (i + 1) v := by
  unfold nextR; rw [drop_at xs i h]; simp only [nextL]; rw [if_neg hv]
/-- What is found: none, or the first one. -/
theorem nextR_spec (xs : List Bool) (v : Bool) (m : Nat) : ∀ i, xs.length - i = m →
    (nextR xs i v = -1 ∧ ∀ t, i ≤ t → t < xs.length → xs[t]?.getD false ≠ v) ∨
    ∃ j : Nat, nextR xs i v = j ∧ i ≤ j ∧ j < xs.length ∧ xs[j]?.getD false = v ∧ ∀ t, i ≤ t → t < j → xs[t]?.getD false ≠ v := by
  induction m with
  | zero => intro i h; exact .inl ⟨nextR_end _ _ _ (by omega), fun t h1 h2 => by omega⟩
  | succ m ih =>
    intro i h
    by_cases hv : xs[i]?.getD false = v
    · exact .inr ⟨i, nextR_yes _ _ _ (by omega) hv, by omega, by omega, hv, fun t h1 h2 => by omega⟩
    · rw [nextR_no _ _ _ (by omega) hv]
      rcases ih (i + 1) (by omega) with ⟨h1, h2⟩ | ⟨j, h1, h2, h3, h4, h5⟩
      · refine .inl ⟨h1, fun t a b => ?_⟩
        by_cases e : t = i
        · subst e; exact hv
        · exact h2 t (by omega) b
      · refine .inr ⟨j, h1, by omega, h3, h4, fun t a b => ?_⟩
        by_cases e : t = i
        · subst e; exact hv
        · exact h5 t (by omega) b
theorem nextR_is (xs : List Bool) (v : Bool) (i j : Nat) (h1 : i ≤ j) (h2 : j < xs.length) (h3 : xs[j]?.getD false = v) (h4 : ∀ t, i ≤ t → t < j → xs[t]?.getD false ≠ v) : nextR xs i v = j := by
  rcases nextR_spec xs v _ i rfl with ⟨_, h⟩ | ⟨l, h, a, _, c, d⟩
  · exact absurd h3 (h j h1 h2)
  · rcases Nat.lt_trichotomy l j with e | e | e
    · exact absurd c (h4 l a e)
    · rw [h, e]
    · exact absurd h3 (d j h1 e)
theorem nextR_none (xs : List Bool) (v : Bool) (i : Nat) (h : ∀ t, i ≤ t → t < xs.length → xs[t]?.getD false ≠ v) : nextR xs i v = -1 := by
  rcases nextR_spec xs v _ i rfl with ⟨e, _⟩ | ⟨l, _, a, b, c, _⟩
  · exact e
  · exact absurd c (h l a b)
theorem nextR_bd (xs : List Bool) (i : Nat) (v : Bool) : -1 ≤ nextR xs i v ∧ nextR xs i v < (xs.length : Int) ∨ nextR xs i v = -1 := by
  rcases nextR_spec xs v _ i rfl with ⟨h, _⟩ | ⟨j, h, _, h2, _⟩ <;> omega

/-- k places from i on are there, and none of them is so. -/
def Clear (xs : List Bool) (i k : Nat) : Prop := i + k ≤ xs.length ∧ ∀ t, i ≤ t → t < i + k → xs[t]?.getD false = false
def clrB (xs : List Bool) (i k : Nat) : Bool := decide (i + k ≤ xs.length) && ((xs.drop i).take k).all (fun x => !x)
theorem clrB_iff (xs : List Bool) (i k : Nat) : clrB xs i k = true ↔ Clear xs i k := by
  unfold clrB Clear
  simp only [Bool.and_eq_true, decide_eq_true_eq, List.all_eq_true, Bool.not_eq_true']
  constructor
  · rintro ⟨h1, h2⟩
    refine ⟨h1, fun t a b => ?_⟩
    have hm : xs[t]?.getD false ∈ (xs.drop i).take k := by
      apply List.mem_iff_getElem?.2
      refine ⟨t - i, ?_⟩
      rw [List.getElem?_take, if_pos (by omega), List.getElem?_drop, show i + (t - i) = t by omega]
      simp [show t < xs.length by omega]
    exact h2 _ hm
  · rintro ⟨h1, h2⟩
    refine ⟨h1, fun x hx => ?_⟩
    obtain ⟨j, hj⟩ := List.mem_iff_getElem?.1 hx
    rw [List.getElem?_take] at hj
    split at hj
    · rw [List.getElem?_drop] at hj
      have := h2 (i + j) (by omega) (by omega)
      rw [hj] at this; simpa using this
    · cases hj
/-- The first place from i on, of m more, from which on k places are clear; -1: there is none. -/
def runN (xs : List Bool) (k : Nat) : Nat → Nat → Int
  | 0, _ => -1
  | m + 1, i => if clrB xs i k = true then (i : Int) else runN xs k m (i + 1)
def runR (xs : List Bool) (i k : Nat) : Int := runN xs k (xs.length - i) i

theorem runR_yes (xs : List Bool) (i k : Nat) (hk : 1 ≤ k) (h : Clear xs i k) : runR xs i k = i := by
  obtain ⟨m, hm⟩ : ∃ m, xs.length - i = m + 1 := ⟨xs.length - i - 1, by have := h.1; omega⟩
  unfold runR; rw [hm]; simp only [runN]; rw [if_pos ((clrB_iff _ _ _).2 h)]
theorem runR_no (xs : List Bool) (i k : Nat) (h : ¬ Clear xs i k) : runR xs i k = runR xs (i + 1) k := by
  unfold runR
  rcases Nat.lt_or_ge i xs.length with h1 | h1
  · obtain ⟨m, hm⟩ : ∃ m, xs.length - i = m + 1 := ⟨xs.length - i - 1, by omega⟩
    rw [hm, show xs.length - (i + 1) = m by omega]; simp only [runN]; rw [if_neg (fun e => h ((clrB_iff _ _ _).1 e))]
  · rw [show xs.length - i = 0 by omega, show xs.length - (i + 1) = 0 by omega]; rfl
theorem runR_skip (xs : List Bool) (k d : Nat) : ∀ i, (∀ s, i ≤ s → s < i + d → ¬ Clear xs s k) → runR xs i k = runR xs (i + d) k := by
  induction d with
  | zero => intro i _; rfl
  | succ d ih =>
    intro i h
    rw [runR_no xs i k (h i (by omega) (by omega)), ih (i + 1) (fun s a b => h s (by omega) (by omega)), show i + 1 + d = i + (d + 1) by omega]
theorem runR_end (xs : List Bool) (i k : Nat) (h : xs.length < i + k) : runR xs i k = -1 := by
  have e := runR_skip xs k (xs.length - i) i (fun s a b c => by have := c.1; omega)
  rw [e]; unfold runR; rw [show xs.length - (i + (xs.length - i)) = 0 by omega]; rfl
/-- A run: none, or the first one. -/
theorem runR_spec (xs : List Bool) (k : Nat) (hk : 1 ≤ k) (m : Nat) : ∀ i, xs.length - i = m →
    (runR xs i k = -1 ∧ ∀ s, i ≤ s → ¬ Clear xs s k) ∨ ∃ j : Nat, runR xs i k = j ∧ i ≤ j ∧ Clear xs j k ∧ ∀ s, i ≤ s → s < j → ¬ Clear xs s k := by
  induction m with
  | zero => intro i h; exact .inl ⟨runR_end _ _ _ (by omega), fun s h1 h2 => by have := h2.1; omega⟩
  | succ m ih =>
    intro i h
    by_cases hc : Clear xs i k
    · exact .inr ⟨i, runR_yes _ _ _ hk hc, by omega, hc, fun t h1 h2 => by omega⟩
    · rw [runR_no _ _ _ hc]
      rcases ih (i + 1) (by omega) with ⟨h1, h2⟩ | ⟨j, h1, h2, h3, h5⟩
      · refine .inl ⟨h1, fun t a => ?_⟩
        by_cases e : t = i
        · subst e; exact hc
        · exact h2 t (by omega)
      · refine .inr ⟨j, h1, by omega, h3, fun t a b => ?_⟩
        by_cases e : t = i
        · subst e; exact hc
        · exact h5 t (by omega) b
theorem runR_is (xs : List Bool) (i k j : Nat) (hk : 1 ≤ k) (h1 : i ≤ j) (h2 : Clear xs j k) (h3 : ∀ s, i ≤ s → s < j → ¬ Clear xs s k) : runR xs i k = j := by
  have e := runR_skip xs k (j - i) i (fun s a b => h3 s a (by omega))
  rw [e, show i + (j - i) = j by omega, runR_yes _ _ _ hk h2]
theorem runR_none (xs : List Bool) (i k : Nat) (hk : 1 ≤ k) (h : ∀ s, i ≤ s → ¬ Clear xs s k) : runR xs i k = -1 := by
  rcases runR_spec xs k hk _ i rfl with ⟨e, _⟩ | ⟨j, _, a, b, _⟩
  · exact e
  · exact absurd b (h j a)
/-- A place that is so bars all runs over it. -/
theorem runR_bar (xs : List Bool) (s j k : Nat) (h1 : s ≤ j) (h2 : j < s + k) (hj : xs[j]?.getD false = true) : runR xs s k = runR xs (j + 1) k := by
  have e := runR_skip xs k (j + 1 - s) s (fun t a b c => by have := c.2 j (by omega) (by omega); rw [hj] at this; cases this)
  rw [e, show s + (j + 1 - s) = j + 1 by omega]

/-- How many of the first j are so. -/
def cnt (xs : List Bool) (j : Nat) : Nat := (xs.take j).countP (fun x => x)
theorem cnt_zero (xs : List Bool) : cnt xs 0 = 0 := by simp [cnt]
theorem cnt_step (xs : List Bool) (j : Nat) (h : j < xs.length) : cnt xs (j + 1) = cnt xs j + if xs[j]?.getD false = true then 1 else 0 := by
  unfold cnt
  rw [List.take_succ_eq_append_getElem h, List.countP_append]
  simp [h, List.countP_cons]
theorem cnt_le (xs : List Bool) (j : Nat) : cnt xs j ≤ j := by
  unfold cnt
  exact Nat.le_trans List.countP_le_length (List.length_take_le _ _)
/-- How many are so. -/
def cntA (xs : List Bool) : Nat := cnt xs xs.length
theorem cntA_offs (n : Nat) : cntA (offs n) = 0 := by
  unfold cntA cnt; rw [List.take_of_length_le (Nat.le_refl _)]; simp [offs, List.countP_replicate]
theorem cntA_none (xs : List Bool) (h : ∀ t : Nat, xs[t]?.getD false = false) : cntA xs = 0 := by
  have : xs = offs xs.length := beq_of_getD (by rw [offs_length]) (fun t => by rw [h t, offs_get])
  rw [this]; exact cntA_offs _

/-- The places of L are set to v, one behind the other. -/
def setAll (xs : List Bool) (v : Bool) (L : List Int) : List Bool := L.foldl (fun ys i => ys.set i.toNat v) xs
theorem setAll_length (xs : List Bool) (v : Bool) (L : List Int) : (setAll xs v L).length = xs.length := by
  unfold setAll
  induction L generalizing xs with
  | nil => rfl
  | cons i L ih => simp only [List.foldl_cons]; rw [ih]; simp
theorem setAll_step (xs : List Bool) (v : Bool) (L : List Int) (j : Nat) (h : j < L.length) : setAll xs v (L.take (j + 1)) = (setAll xs v (L.take j)).set (L[j]?.getD 0).toNat v := by
  unfold setAll
  rw [List.take_succ_eq_append_getElem h, List.foldl_append]
  simp [h]
theorem setAll_get (xs : List Bool) (v : Bool) (L : List Int) (hL : ∀ i ∈ L, 0 ≤ i ∧ i < (xs.length : Int)) (t : Nat) :
    (setAll xs v L)[t]?.getD false = if (t : Int) ∈ L then v else xs[t]?.getD false := by
  unfold setAll
  induction L generalizing xs with
  | nil => simp
  | cons i L ih =>
    simp only [List.foldl_cons]
    rw [ih _ (fun k hk => by have := hL k (List.mem_cons_of_mem _ hk); simpa using this)]
    by_cases hm : (t : Int) ∈ L
    · rw [if_pos hm, if_pos (List.mem_cons_of_mem _ hm)]
    · rw [if_neg hm]
      have hi := hL i (List.mem_cons_self ..)
      by_cases e : (t : Int) = i
      · subst e; rw [if_pos (List.mem_cons_self ..), Int.toNat_natCast, bset_same _ _ _ (by omega)]
      · rw [if_neg (by simp [e, hm]), bset_other _ _ _ _ (by omega)]

/-- All of L are places of n. -/
def Fits (n : Nat) (L : List Int) : Prop := ∀ j, j < L.length → 0 ≤ L[j]?.getD 0 ∧ L[j]?.getD 0 < (n : Int)
def fitsB (n : Nat) (L : List Int) : Bool := L.all (fun i => decide (0 ≤ i) && decide (i < (n : Int)))
theorem fitsB_iff (n : Nat) (L : List Int) : fitsB n L = true ↔ ∀ i ∈ L, 0 ≤ i ∧ i < (n : Int) := by
  unfold fitsB; simp [List.all_eq_true]
theorem fitsB_false (n : Nat) (L : List Int) (j : Nat) (h : j < L.length) (hj : ¬ (0 ≤ L[j]?.getD 0 ∧ L[j]?.getD 0 < (n : Int))) : fitsB n L = false := by
  cases hf : fitsB n L
  · rfl
  · exact absurd ((fitsB_iff n L).1 hf _ (by simp [h])) hj
theorem fitsB_true (n : Nat) (L : List Int) (h : ∀ j, j < L.length → 0 ≤ L[j]?.getD 0 ∧ L[j]?.getD 0 < (n : Int)) : fitsB n L = true := by
  rw [fitsB_iff]
  intro i hi
  obtain ⟨j, hj⟩ := List.mem_iff_getElem?.1 hi
  have hl : j < L.length := by
    rcases Nat.lt_or_ge j L.length with h | h
    · exact h
    · rw [List.getElem?_eq_none h] at hj; cases hj
  have := h j hl
  rw [hj] at this; simpa using this
theorem fitsB_get (n : Nat) (L : List Int) (h : fitsB n L = true) (j : Nat) (hj : j < L.length) : 0 ≤ L[j]?.getD 0 ∧ L[j]?.getD 0 < (n : Int) := by
  have := (fitsB_iff n L).1 h (L[j]) (List.getElem_mem ..)
  simpa [hj] using this

/-- A slice of integers, somewhere in memory. -/
structure IntsAt (w : World) (ao : Option Addr) (L : List Int) : Prop where
  cells : 0 < L.length → ∃ b off, ao = some ⟨b, off, none⟩ ∧ b < w.heap.size ∧ ∀ i, i < L.length → w.cell? ⟨b, off + i, none⟩ = some (.int .i64 (L[i]?.getD 0))
  low : ∀ i : Nat, -9223372036854775808 ≤ L[i]?.getD 0
  high : ∀ i : Nat, L[i]?.getD 0 ≤ 9223372036854775807
/-- Its cells lie outside of S. -/
def Off (ao : Option Addr) (S : List Nat) : Prop := ∀ a, ao = some a → a.block ∉ S
theorem IntsAt.keep {S : List Nat} {w w' : World} {ao : Option Addr} {L : List Int} (h : IntsAt w ao L) (k : Keep S w w') (ho : 0 < L.length → Off ao S) : IntsAt w' ao L := by
  refine ⟨fun h0 => ?_, h.low, h.high⟩
  obtain ⟨b, off, rfl, hb, hc⟩ := h.cells h0
  exact ⟨b, off, rfl, Nat.lt_of_lt_of_le hb k.size, fun i hi => (k.cell hb (ho h0 _ rfl) _).trans (hc i hi)⟩
/-- What lies in old memory lies in no block that is new. -/
theorem IntsAt.off {w : World} {ao : Option Addr} {L : List Int} (h : IntsAt w ao L) {S : List Nat} (hS : ∀ k, k ∈ S → w.heap.size ≤ k) : 0 < L.length → Off ao S := by
  intro h0 a e hm
  obtain ⟨b, off, rfl, hb, _⟩ := h.cells h0
  cases e
  have := hS _ hm
  simp only at this
  omega
theorem set_reset (m : Nat) (L : List Int) (hL : ∀ i ∈ L, 0 ≤ i ∧ i < (m : Int)) : cntA (setAll (setAll (offs m) true L) false L) = 0 := by
  apply cntA_none
  intro t
  rw [setAll_get _ _ _ (by rw [setAll_length, offs_length]; exact hL)]
  split
  · rfl
  · rename_i h
    rw [setAll_get _ _ _ (by rw [offs_length]; exact hL), if_neg h, offs_get]
theorem set_has (m : Nat) (L : List Int) (hL : ∀ i ∈ L, 0 ≤ i ∧ i < (m : Int)) (j : Nat) (hj : j < L.length) : (setAll (offs m) true L)[(L[j]?.getD 0).toNat]?.getD false = true := by
  have hm : L[j]?.getD 0 ∈ L := by simp [hj]
  have hb := hL _ hm
  rw [setAll_get _ _ _ (by rw [offs_length]; exact hL), if_pos (by rw [Int.toNat_of_nonneg hb.1]; exact hm)]

/-- A slice of bytes, somewhere in memory. -/
structure U8At (w : World) (ao : Option Addr) (n : Nat) (A : Nat → Nat) : Prop where
  cells : 0 < n → ∃ b off, ao = some ⟨b, off, none⟩ ∧ b < w.heap.size ∧ ∀ i, i < n → w.cell? ⟨b, off + i, none⟩ = some (.int .u8 (A i))
  lt : ∀ i, A i < 256
theorem U8At.keep {S : List Nat} {w w' : World} {ao : Option Addr} {n : Nat} {A : Nat → Nat} (h : U8At w ao n A) (k : Keep S w w') (ho : ∀ b, b ∈ S → w.heap.size ≤ b) : U8At w' ao n A := by
  refine ⟨fun h0 => ?_, h.lt⟩
  obtain ⟨b, off, rfl, hb, hc⟩ := h.cells h0
  exact ⟨b, off, rfl, Nat.lt_of_lt_of_le hb k.size, fun i hi => (k.cell hb (fun e => by have := ho b e; omega) _).trans (hc i hi)⟩

theorem cntA_set (xs : List Bool) (k : Nat) (h : k < xs.length) : cntA (xs.set k true) = cntA xs + if xs[k]?.getD false = true then 0 else 1 := by
  unfold cntA cnt
  rw [List.length_set, List.take_of_length_le (by simp), List.take_of_length_le (Nat.le_refl _), List.countP_set h]
  by_cases e : xs[k] = true
  · have : 0 < xs.countP (fun x => x) := List.countP_pos_iff.2 ⟨xs[k], List.getElem_mem .., e⟩
    simp [h, e]; omega
  · simp [h, e]
theorem cnt_gap (xs : List Bool) (d : Nat) : ∀ a, a + d ≤ xs.length → (∀ t, a ≤ t → t < a + d → xs[t]?.getD false = false) → cnt xs (a + d) = cnt xs a := by
  induction d with
  | zero => intro a _ _; rfl
  | succ d ih =>
    intro a h1 h2
    rw [show a + (d + 1) = (a + d) + 1 by omega, cnt_step xs (a + d) (by omega), h2 (a + d) (by omega) (by omega), if_neg (by simp), Nat.add_zero]
    exact ih a (by omega) (fun t c e => h2 t c (by omega))

end Go.Proofs.Ytjlfjbdkffppeaa
