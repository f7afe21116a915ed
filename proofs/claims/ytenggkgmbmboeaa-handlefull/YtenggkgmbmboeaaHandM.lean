/-
  The plain mathematics of handles: what each slot holds (0: nothing), and its turn; what Hold, Held, Drop, All and Room answer and leave. It speaks of no program.
-/
import Derived.Test.YtenggkgmbmboeaaBase
namespace Go.Proofs.Ytenggkgmbmboeaa
open Go.RowKit

/-- 512 slots: what each holds, and each one's turn, no turn above B and 1. -/
structure HOK (B : Nat) (xs ts : List Int) : Prop where
  lx : xs.length = 512
  lt : ts.length = 512
  x : ∀ i : Nat, 0 ≤ xs[i]?.getD 0 ∧ xs[i]?.getD 0 ≤ 9223372036854775807
  t : ∀ i : Nat, i < 512 → 1 ≤ ts[i]?.getD 0 ∧ ts[i]?.getD 0 ≤ (B : Int) + 1
theorem HOK.mono {B C : Nat} {xs ts : List Int} (h : HOK B xs ts) (hB : B ≤ C) : HOK C xs ts := ⟨h.lx, h.lt, h.x, fun i hi => by have := h.t i hi; omega⟩
/-- Nothing is held. -/
def onesL : List Int := List.replicate 512 1
theorem onesL_get (i : Nat) (h : i < 512) : onesL[i]?.getD 0 = 1 := by unfold onesL; rw [List.getElem?_replicate, if_pos h]; rfl
theorem HOK.fresh : HOK 0 (zeros 512) onesL := ⟨zeros_length _, List.length_replicate, fun i => by rw [zeros_get]; omega, fun i hi => by rw [onesL_get i hi]; omega⟩

/-- Slot i is the first one that does not hold. -/
def FreeAt (xs : List Int) (i : Nat) : Prop := i < 512 ∧ xs[i]?.getD 0 = 0 ∧ ∀ j : Nat, j < i → xs[j]?.getD 0 ≠ 0
def NoFree (xs : List Int) : Prop := ∀ j : Nat, j < 512 → xs[j]?.getD 0 ≠ 0
theorem free_to (xs : List Int) : ∀ n : Nat, n ≤ 512 → (∃ i, i < n ∧ FreeAt xs i) ∨ ∀ j : Nat, j < n → xs[j]?.getD 0 ≠ 0
  | 0, _ => .inr (fun j hj => by omega)
  | n + 1, hn => by
    rcases free_to xs n (by omega) with ⟨i, hi, h⟩ | h
    · exact .inl ⟨i, by omega, h⟩
    · by_cases e : xs[n]?.getD 0 = 0
      · exact .inl ⟨n, by omega, by omega, e, h⟩
      · exact .inr (fun j hj => by
          by_cases hjn : j = n
          · subst hjn; exact e
          · exact h j (by omega))
theorem free_or (xs : List Int) : (∃ i, FreeAt xs i) ∨ NoFree xs := by
  rcases free_to xs 512 (by omega) with ⟨i, _, h⟩ | h
  · exact .inl ⟨i, h⟩
  · exact .inr h
theorem FreeAt.same {xs : List Int} {i k : Nat} (h : FreeAt xs i) (g : FreeAt xs k) : i = k := by
  rcases Nat.lt_trichotomy i k with e | e | e
  · exact absurd h.2.1 (g.2.2 i e)
  · exact e
  · exact absurd g.2.1 (h.2.2 k e)

/-- What Hold answers and leaves. -/
def HoldT (xs ts : List Int) (a N E : Int) (xs' : List Int) : Prop :=
  (a < 1 ∧ N = 0 ∧ E = 1 ∧ xs' = xs) ∨ (1 ≤ a ∧ NoFree xs ∧ N = 0 ∧ E = 3 ∧ xs' = xs) ∨ (1 ≤ a ∧ ∃ i : Nat, FreeAt xs i ∧ N = (i : Int) + 512 * ts[i]?.getD 0 ∧ E = 0 ∧ xs' = xs.set i a)
theorem holdT_ex (xs ts : List Int) (a : Int) : ∃ N E xs', HoldT xs ts a N E xs' := by
  by_cases h : a < 1
  · exact ⟨_, _, _, .inl ⟨h, rfl, rfl, rfl⟩⟩
  · rcases free_or xs with ⟨i, g⟩ | g
    · exact ⟨_, _, _, .inr (.inr ⟨by omega, i, g, rfl, rfl, rfl⟩)⟩
    · exact ⟨_, _, _, .inr (.inl ⟨by omega, g, rfl, rfl, rfl⟩)⟩
theorem HOK.set {B : Nat} {xs ts : List Int} (h : HOK B xs ts) (i : Nat) (a : Int) (h1 : 0 ≤ a) (h2 : a ≤ 9223372036854775807) : HOK B (xs.set i a) ts := by
  refine ⟨by rw [List.length_set]; exact h.lx, h.lt, fun k => ?_, h.t⟩
  by_cases e : i = k
  · subst e
    by_cases hi : i < xs.length
    · rw [set_get_same _ _ _ hi]; exact ⟨h1, h2⟩
    · rw [List.getElem?_eq_none (by rw [List.length_set]; omega)]; simp
  · rw [set_get_other _ _ _ _ e]; exact h.x k
theorem HoldT.ok {B : Nat} {xs ts xs' : List Int} {a N E : Int} (h : HoldT xs ts a N E xs') (hk : HOK B xs ts) (ha : a ≤ 9223372036854775807) : HOK B xs' ts := by
  rcases h with ⟨_, _, _, rfl⟩ | ⟨_, _, _, _, rfl⟩ | ⟨h1, i, _, _, _, rfl⟩
  · exact hk
  · exact hk
  · exact hk.set i a (by omega) ha

/-- Number x is what Hold told of slot i, that holds since. -/
def HeldAt (xs ts : List Int) (x : Int) (i : Nat) : Prop := i < 512 ∧ xs[i]?.getD 0 ≠ 0 ∧ x = (i : Int) + 512 * ts[i]?.getD 0
def Stale (xs ts : List Int) (x : Int) : Prop := ∀ i : Nat, ¬ HeldAt xs ts x i
theorem HeldAt.same {xs ts : List Int} {x : Int} {i k : Nat} (h : HeldAt xs ts x i) (g : HeldAt xs ts x k) : i = k := by
  obtain ⟨h1, _, h3⟩ := h
  obtain ⟨g1, _, g3⟩ := g
  omega
theorem held_or (xs ts : List Int) (x : Int) : (∃ i, HeldAt xs ts x i) ∨ Stale xs ts x := by
  by_cases h : ∃ i, HeldAt xs ts x i
  · exact .inl h
  · exact .inr (fun i hi => h ⟨i, hi⟩)
/-- By the slot that x names. -/
theorem stale_low {B : Nat} {xs ts : List Int} (h : HOK B xs ts) {x : Int} (hx : x < 512) : Stale xs ts x := by
  rintro i ⟨h1, _, h3⟩
  have := h.t i h1
  omega
theorem held_slot {B : Nat} {xs ts : List Int} (h : HOK B xs ts) {x : Int} (hx : 512 ≤ x) : ∃ i q : Nat, i < 512 ∧ x = (i : Int) + 512 * (q : Int) ∧ x.tmod 512 = i ∧ x.tdiv 512 = q ∧ (HeldAt xs ts x i ↔ xs[i]?.getD 0 ≠ 0 ∧ (q : Int) = ts[i]?.getD 0) ∧ (∀ k, HeldAt xs ts x k → k = i) := by
  obtain ⟨n, rfl⟩ := Int.eq_ofNat_of_zero_le (show 0 ≤ x by omega)
  have e1 : (n : Int).tmod 512 = ((n % 512 : Nat) : Int) := by rw [Int.tmod_eq_emod_of_nonneg (by omega)]; rfl
  have e2 : (n : Int).tdiv 512 = ((n / 512 : Nat) : Int) := by rw [Int.tdiv_eq_ediv_of_nonneg (by omega)]; rfl
  have hm := Nat.mod_lt n (show 0 < 512 by omega)
  have hd := Nat.mod_add_div n 512
  generalize n % 512 = i at *
  generalize n / 512 = q at *
  refine ⟨i, q, hm, by omega, e1, e2, ⟨?_, ?_⟩, ?_⟩
  · rintro ⟨_, g2, g3⟩
    exact ⟨g2, by omega⟩
  · rintro ⟨g1, g2⟩
    exact ⟨hm, g1, by omega⟩
  · rintro k ⟨g1, _, g3⟩
    have := h.t k g1
    omega
/-- What Held answers. -/
def HeldT (xs ts : List Int) (x N E : Int) : Prop := (Stale xs ts x ∧ N = 0 ∧ E = 6) ∨ ∃ i : Nat, HeldAt xs ts x i ∧ N = xs[i]?.getD 0 ∧ E = 0
theorem heldT_ex (xs ts : List Int) (x : Int) : ∃ N E, HeldT xs ts x N E := by
  rcases held_or xs ts x with ⟨i, h⟩ | h
  · exact ⟨_, _, .inr ⟨i, h, rfl, rfl⟩⟩
  · exact ⟨_, _, .inl ⟨h, rfl, rfl⟩⟩
/-- What Drop answers and leaves. -/
def DropT (xs ts : List Int) (x E : Int) (xs' ts' : List Int) : Prop := (Stale xs ts x ∧ E = 6 ∧ xs' = xs ∧ ts' = ts) ∨ ∃ i : Nat, HeldAt xs ts x i ∧ E = 0 ∧ xs' = xs.set i 0 ∧ ts' = ts.set i (ts[i]?.getD 0 + 1)
theorem dropT_ex (xs ts : List Int) (x : Int) : ∃ E xs' ts', DropT xs ts x E xs' ts' := by
  rcases held_or xs ts x with ⟨i, h⟩ | h
  · exact ⟨_, _, _, .inr ⟨i, h, rfl, rfl, rfl⟩⟩
  · exact ⟨_, _, _, .inl ⟨h, rfl, rfl, rfl⟩⟩
theorem DropT.ok {B : Nat} {xs ts xs' ts' : List Int} {x E : Int} (h : DropT xs ts x E xs' ts') (hk : HOK B xs ts) : HOK (B + 1) xs' ts' := by
  rcases h with ⟨_, _, rfl, rfl⟩ | ⟨i, h1, _, rfl, rfl⟩
  · exact hk.mono (by omega)
  · have h2 := hk.set i 0 (by omega) (by omega)
    refine ⟨h2.lx, by rw [List.length_set]; exact hk.lt, h2.x, fun k hkk => ?_⟩
    by_cases e : i = k
    · subst e
      rw [set_get_same _ _ _ (by rw [hk.lt]; exact hkk)]
      have := hk.t i hkk
      omega
    · rw [set_get_other _ _ _ _ e]
      have := hk.t k hkk
      omega

/-- What the first n slots hold: handles and addresses, by slot. -/
def allTo (xs ts : List Int) : Nat → List (Int × Int)
  | 0 => []
  | n + 1 => if xs[n]?.getD 0 = 0 then allTo xs ts n else allTo xs ts n ++ [((n : Int) + 512 * ts[n]?.getD 0, xs[n]?.getD 0)]
def freeTo (xs : List Int) : Nat → Nat
  | 0 => 0
  | n + 1 => if xs[n]?.getD 0 = 0 then freeTo xs n + 1 else freeTo xs n
theorem allTo_len (xs ts : List Int) : ∀ n, (allTo xs ts n).length + freeTo xs n = n
  | 0 => rfl
  | n + 1 => by
    have := allTo_len xs ts n
    unfold allTo freeTo
    split
    · omega
    · rw [List.length_append]; simp; omega
def allH (xs ts : List Int) : List (Int × Int) := allTo xs ts 512
theorem allH_len (xs ts : List Int) : (allH xs ts).length ≤ 512 := by have := allTo_len xs ts 512; unfold allH; omega
theorem allTo_mem (xs ts : List Int) : ∀ (n : Nat) (p : Int × Int), p ∈ allTo xs ts n → ∃ i : Nat, i < n ∧ xs[i]?.getD 0 ≠ 0 ∧ p = ((i : Int) + 512 * ts[i]?.getD 0, xs[i]?.getD 0)
  | 0, p, h => by simp [allTo] at h
  | n + 1, p, h => by
    unfold allTo at h
    split at h
    · obtain ⟨i, h1, h2, h3⟩ := allTo_mem xs ts n p h
      exact ⟨i, by omega, h2, h3⟩
    · rename_i e
      rw [List.mem_append] at h
      rcases h with h | h
      · obtain ⟨i, h1, h2, h3⟩ := allTo_mem xs ts n p h
        exact ⟨i, by omega, h2, h3⟩
      · simp at h
        exact ⟨n, by omega, e, h⟩

end Go.Proofs.Ytenggkgmbmboeaa
