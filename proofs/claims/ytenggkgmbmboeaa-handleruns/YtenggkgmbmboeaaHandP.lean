/-
  The plain mathematics of handles, further: slots that hold are the first n; what all are then. It speaks of no program.
-/
import Derived.Test.YtenggkgmbmboeaaHandM
namespace Go.Proofs.Ytenggkgmbmboeaa
open Go.RowKit

/-- The first n slots hold, no other does. -/
structure Pref (xs : List Int) (n : Nat) : Prop where
  yes : ∀ t : Nat, t < n → xs[t]?.getD 0 ≠ 0
  no : ∀ t : Nat, n ≤ t → xs[t]?.getD 0 = 0
theorem Pref.zeros : Pref (zeros 512) 0 := ⟨fun t h => by omega, fun t _ => zeros_get 512 t⟩
theorem Pref.free {xs : List Int} {n : Nat} (h : Pref xs n) (hn : n < 512) : FreeAt xs n := ⟨hn, h.no n (Nat.le_refl _), h.yes⟩
theorem Pref.full {xs : List Int} (h : Pref xs 512) : NoFree xs := h.yes
theorem Pref.set {xs : List Int} {n : Nat} (h : Pref xs n) (hn : n < xs.length) (a : Int) (ha : a ≠ 0) : Pref (xs.set n a) (n + 1) := by
  refine ⟨fun t ht => ?_, fun t ht => ?_⟩
  · by_cases e : n = t
    · subst e; rw [set_get_same _ _ _ hn]; exact ha
    · rw [set_get_other _ _ _ _ e]; exact h.yes t (by omega)
  · rw [set_get_other _ _ _ _ (by omega)]; exact h.no t (by omega)
/-- One of them is turned. -/
theorem Pref.turn {xs : List Int} {n i : Nat} (h : Pref xs n) (hi : i < n) (hl : i < xs.length) (a : Int) (ha : a ≠ 0) : Pref (xs.set i a) n := by
  refine ⟨fun t ht => ?_, fun t ht => ?_⟩
  · by_cases e : i = t
    · subst e; rw [set_get_same _ _ _ hl]; exact ha
    · rw [set_get_other _ _ _ _ e]; exact h.yes t ht
  · rw [set_get_other _ _ _ _ (by omega)]; exact h.no t ht
theorem Pref.allTo {xs : List Int} {n : Nat} (h : Pref xs n) (ts : List Int) : ∀ m : Nat, m ≤ n → allTo xs ts m = (List.range m).map (fun t : Nat => ((t : Int) + 512 * ts[t]?.getD 0, xs[t]?.getD 0))
  | 0, _ => rfl
  | m + 1, hm => by
    have ih := h.allTo ts m (by omega)
    rw [List.range_succ, List.map_append, ← ih]
    show (if xs[m]?.getD 0 = 0 then _ else _) = _
    rw [if_neg (h.yes m (by omega))]
    rfl
theorem Pref.allOn {xs : List Int} {n : Nat} (h : Pref xs n) (ts : List Int) : ∀ d : Nat, Go.Proofs.Ytenggkgmbmboeaa.allTo xs ts (n + d) = Go.Proofs.Ytenggkgmbmboeaa.allTo xs ts n
  | 0 => rfl
  | d + 1 => by
    refine Eq.trans ?_ (h.allOn ts d)
    show (if xs[n + d]?.getD 0 = 0 then _ else _) = _
    rw [if_pos (h.no (n + d) (by omega))]
    rfl
theorem Pref.all {xs : List Int} {n : Nat} (h : Pref xs n) (hn : n ≤ 512) (ts : List Int) : allH xs ts = (List.range n).map (fun t : Nat => ((t : Int) + 512 * ts[t]?.getD 0, xs[t]?.getD 0)) := by
  have := h.allOn ts (512 - n)
  rw [show n + (512 - n) = 512 by omega] at this
  exact this.trans (h.allTo ts n (Nat.le_refl _))
theorem Pref.len {xs : List Int} {n : Nat} (h : Pref xs n) (hn : n ≤ 512) (ts : List Int) : (allH xs ts).length = n := by rw [h.all hn ts]; simp
theorem Pref.get {xs : List Int} {n : Nat} (h : Pref xs n) (hn : n ≤ 512) (ts : List Int) (i : Nat) (hi : i < n) : (allH xs ts)[i]? = some ((i : Int) + 512 * ts[i]?.getD 0, xs[i]?.getD 0) := by rw [h.all hn ts]; simp [hi]

theorem Pref.stale0 (ts : List Int) (x : Int) : Stale (Go.Proofs.Ytenggkgmbmboeaa.zeros 512) ts x := fun i h => h.2.1 (zeros_get 512 i)
/-- The first slot alone. -/
def oneH (a : Int) : List Int := (zeros 512).set 0 a
theorem oneH_ok {a : Int} (h1 : 1 ≤ a) (h2 : a ≤ 9223372036854775807) : HOK 0 (oneH a) onesL := HOK.fresh.set 0 a (by omega) h2
theorem oneH_pref {a : Int} (h : 1 ≤ a) : Pref (oneH a) 1 := Pref.zeros.set (by rw [zeros_length]; omega) a (by omega)
theorem oneH_get (a : Int) : (oneH a)[0]?.getD 0 = a := set_get_same _ _ _ (by rw [zeros_length]; omega)
theorem oneH_hold {a : Int} (h : 1 ≤ a) : HoldT (zeros 512) onesL a 512 0 (oneH a) := .inr (.inr ⟨h, 0, Pref.zeros.free (by omega), by rw [onesL_get 0 (by omega)]; rfl, rfl, rfl⟩)
theorem oneH_held {a : Int} (h : 1 ≤ a) : HeldT (oneH a) onesL 512 a 0 := .inr ⟨0, ⟨by omega, (oneH_pref h).yes 0 (by omega), by rw [onesL_get 0 (by omega)]; rfl⟩, (oneH_get a).symm, rfl⟩
theorem oneH_stale {a x : Int} (h : 1 ≤ a) (hx : x ≠ 512) : Stale (oneH a) onesL x := by
  rintro i ⟨h1, h2, h3⟩
  rcases Nat.eq_zero_or_pos i with rfl | hi
  · rw [onesL_get 0 (by omega)] at h3; exact hx h3
  · exact h2 ((oneH_pref h).no i (by omega))

/-- The first handles that there are. -/
def upH (n : Nat) : List Int := (List.range n).map (fun t : Nat => 512 + (t : Int))
theorem upH_length (n : Nat) : (upH n).length = n := by simp [upH]
theorem upH_get (n i : Nat) (h : i < n) : (upH n)[i]?.getD 0 = 512 + i := by simp [upH, h]
theorem upH_succ (n : Nat) : upH (n + 1) = upH n ++ [512 + (n : Int)] := by unfold upH; rw [List.range_succ, List.map_append]; rfl
theorem upH_bd (n : Nat) (hn : n ≤ 1000000) : ∀ i : Nat, -9223372036854775808 ≤ (upH n)[i]?.getD 0 ∧ (upH n)[i]?.getD 0 ≤ 9223372036854775807 := by
  intro i
  by_cases h : i < n
  · rw [upH_get n i h]; omega
  · rw [List.getElem?_eq_none (by rw [upH_length]; omega)]; simp

end Go.Proofs.Ytenggkgmbmboeaa
