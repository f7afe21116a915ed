/-
  Graphs by numbers, as gloaminglaw17 makes them: heads, words. Plain facts.
-/
import Derived.Test.YtgpidokklhjfdaaGreatChainG
namespace Go.Proofs.YtgpidokklhjfdaaGreat
open Go.RowKit

def kG (B : Nat → Nat) (i : Nat) : Int := 1 + ((B i % 4 : Nat) : Int)
def cG (B : Nat → Nat) (i : Nat) : Int := if B i % 4 = 0 then 1 else if B i % 4 = 3 then 1 + ((B i / 4 % 3 : Nat) : Int) else 0
def lG (B : Nat → Nat) (i : Nat) : Int := if B i % 4 = 0 then 3 else if B i % 4 = 3 then 5 else 1 + ((B i / 4 % 5 : Nat) : Int)
/-- The one class. -/
def dsG : List (Int × List Int) := [(3, [0, 2])]
theorem pages_few (n : Int) (h1 : 1 ≤ n) (h2 : n ≤ 32) : pagesI n ≤ (1 : Nat) := by
  unfold pagesI
  split
  · omega
  · split <;> omega
theorem lG_bd (B : Nat → Nat) (i : Nat) : 1 ≤ lG B i ∧ lG B i ≤ 5 := by
  unfold lG
  split
  · omega
  · split <;> omega
theorem headG (B : Nat → Nat) (i : Nat) : mayH (kG B i) (cG B i) (lG B i) false = true ∧ FitsT dsG (kG B i) (cG B i) (lG B i) 0 ∧ pagesI (lG B i + 1) ≤ (1 : Nat) := by
  have hb := lG_bd B i
  refine ⟨?_, ?_, pages_few _ (by omega) (by omega)⟩
  all_goals
    unfold kG cG lG
    rcases (show B i % 4 = 0 ∨ B i % 4 = 1 ∨ B i % 4 = 2 ∨ B i % 4 = 3 by omega) with e | e | e | e
  · rw [e]; simp; decide
  · rw [e]; simp; exact may_refs _ (by omega) (by omega)
  · rw [e]; simp; exact may_data _ (by omega) (by omega)
  · rw [e]; simp; exact mayH_ref (by omega) (by omega)
  · rw [e]; simp; exact .yes 0 [0, 2] rfl rfl rfl
  · rw [e]; simp; exact .other (by omega)
  · rw [e]; simp; exact .other (by omega)
  · rw [e]; simp; exact .other (by omega)

/-- Which fields are addresses. -/
def isG (kk : Int) (k : Nat) : Bool := kk == 2 || (kk == 1 && k != 1) || (kk == 4 && (k == 0 || k == 2))
def numG (B : Nat → Nat) (m i k : Nat) : Nat := B ((i * 7 + k * 3 + 1) % m) + 13 * i + 5 * k
/-- A field, ahead of what is laid for references. -/
def wG1 (B : Nat → Nat) (m : Nat) (L : List Int) (kk : Int) (i k : Nat) : Int :=
  if isG kk k = true then (if 0 < numG B m i k % 3 then L[numG B m i k % L.length]?.getD 0 else 0) else (numG B m i k : Int)
def wG (B : Nat → Nat) (m : Nat) (L : List Int) (kk : Int) (i k : Nat) : Int :=
  if kk = 4 then (if k = 1 then ((B ((i * 5 + 2) % m) % 4 : Nat) : Int) - 1 else if k = 2 then 0 else if k = 3 then (B (i % m) : Int) else if k = 4 then (i : Int) + 1 else wG1 B m L kk i k) else wG1 B m L kk i k
def wordsG (B : Nat → Nat) (m : Nat) (L : List Int) (kk ll : Int) (i : Nat) : List Int := (List.range ll.toNat).map (wG B m L kk i)
theorem wordsG_length (B : Nat → Nat) (m : Nat) (L : List Int) (kk ll : Int) (i : Nat) : (wordsG B m L kk ll i).length = ll.toNat := by simp [wordsG]
theorem wordsG_get (B : Nat → Nat) (m : Nat) (L : List Int) (kk ll : Int) (i k : Nat) (h : k < ll.toNat) : (wordsG B m L kk ll i)[k]?.getD 0 = wG B m L kk i k := by simp [wordsG, h]
theorem wG1_in {B : Nat → Nat} {m : Nat} {L : List Int} (hB : ∀ i, B i < 256) (hL : ∀ t : Nat, inI (L[t]?.getD 0)) (kk : Int) (i k : Nat) (hi : i ≤ 1000) (hk : k ≤ 1000) : inI (wG1 B m L kk i k) := by
  unfold wG1
  split
  · split
    · exact hL _
    · exact inI_0
  · have := hB ((i * 7 + k * 3 + 1) % m)
    unfold numG inI; omega
theorem wG_in {B : Nat → Nat} {m : Nat} {L : List Int} (hB : ∀ i, B i < 256) (hL : ∀ t : Nat, inI (L[t]?.getD 0)) (kk : Int) (i k : Nat) (hi : i ≤ 1000) (hk : k ≤ 1000) : inI (wG B m L kk i k) := by
  unfold wG
  have h1 := hB (i % m)
  split
  · split
    · unfold inI; omega
    · split
      · exact inI_0
      · split
        · unfold inI; omega
        · split
          · unfold inI; omega
          · exact wG1_in hB hL kk i k hi hk
  · exact wG1_in hB hL kk i k hi hk
theorem wordsG_in {B : Nat → Nat} {m : Nat} {L : List Int} (hB : ∀ i, B i < 256) (hL : ∀ t : Nat, inI (L[t]?.getD 0)) (kk ll : Int) (i : Nat) (hi : i ≤ 1000) (hl : ll ≤ 1000) (t : Nat) : inI ((wordsG B m L kk ll i)[t]?.getD 0) := by
  by_cases h : t < ll.toNat
  · rw [wordsG_get _ _ _ _ _ _ _ h]; exact wG_in hB hL kk i t hi (by omega)
  · rw [List.getElem?_eq_none (by rw [wordsG_length]; omega)]; exact inI_0

/-- A graph: its objects made, its fields put. -/
structure GraphT (B : Nat → Nat) (m n : Nat) (W : Nat → List Int) (K : Nat → List PK) (A : Nat → Nat) : Prop where
  ch : PChain 60 dsG n (kG B) (cG B) (lG B) W K A
  few : n ≤ 24
  lt : ∀ i, B i < 256
theorem graph_ex (B : Nat → Nat) (m n : Nat) (hB : ∀ i, B i < 256) (hn : n ≤ 24) : ∃ W K A, GraphT B m n W K A := by
  obtain ⟨W, K, A, h⟩ := pchain_ex 60 dsG (kG B) (cG B) (lG B) (by omega) (by omega) (by simp [dsG]) n (by omega) (fun i _ => headG B i)
  exact ⟨W, K, A, h, hn, hB⟩
/-- Its words. -/
def gZ (B : Nat → Nat) (m n : Nat) (A : Nat → Nat) (i : Nat) : List Int := wordsG B m (aL A n) (kG B i) (lG B i) i
def gW (B : Nat → Nat) (m n : Nat) (W : Nat → List Int) (A : Nat → Nat) (i : Nat) : List Int := phW (W n) A (gZ B m n A) i
section
variable {B : Nat → Nat} {m n : Nat} {W : Nat → List Int} {K : Nat → List PK} {A : Nat → Nat}
theorem GraphT.bd (h : GraphT B m n W K A) (t : Nat) : inI ((aL A n)[t]?.getD 0) := by
  by_cases ht : t < n
  · rw [aL_get A n t ht]
    have := (h.ch.ot n (Nat.le_refl _)).bd t ht
    unfold inI; omega
  · rw [List.getElem?_eq_none (by rw [aL_length]; omega)]; exact inI_0
theorem GraphT.zs (h : GraphT B m n W K A) (i : Nat) (hi : i < n) : ((gZ B m n A i).length : Int) ≤ lG B i ∧ ∀ t : Nat, inI ((gZ B m n A i)[t]?.getD 0) := by
  have h1 := lG_bd B i
  have h2 := h.few
  refine ⟨by unfold gZ; rw [wordsG_length]; omega, fun t => wordsG_in h.lt h.bd _ _ _ (by omega) (by omega) t⟩
theorem GraphT.ot (h : GraphT B m n W K A) (i : Nat) (hi : i ≤ n) : OT (K n) (gW B m n W A i) dsG n A (kG B) (cG B) (lG B) := (h.ch.ot n (Nat.le_refl _)).phase _ (fun i hi => h.zs i hi) i hi
end

end Go.Proofs.YtgpidokklhjfdaaGreat
