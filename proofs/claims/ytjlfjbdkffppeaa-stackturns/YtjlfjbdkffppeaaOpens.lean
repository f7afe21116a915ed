/-
  A list of bytes, opened once for all: what each element holds.
-/
import Derived.Test.YtjlfjbdkffppeaaBools
import Derived.ProofKit
import Derived.OpenShut
import Derived.Deep.Slices
namespace Go.Proofs.Ytjlfjbdkffppeaa
open Go.ChangeShapes Go.WideShapes Go.ChangeAt Go.RowKit

theorem lt_of_cell' {w : World} {b o : Nat} {v : Value} (h : w.cell? ⟨b, o, none⟩ = some v) : b < w.heap.size := by
  rcases Nat.lt_or_ge b w.heap.size with h' | h'
  · exact h'
  · simp [World.cell?, Array.getElem?_eq_none h'] at h

section
variable {H : Type} {enc : TypeId × Value → H} {P : Program} {w : World} {base : Nat} {spare : Nat → Bool} {held : Bool}

theorem open_u8s {t e : TypeId} {fuel len cap : Nat} {ao : Option Addr} {x : DataW H × List MemPlace} (ht : P.underlying t = some (.slice e)) (he : P.underlying e = some (.int .u8))
    (ce : P.cellsOf e = 1) (h : DataW.trod enc P w base spare held fuel t [.slice ao len cap] = some x) :
    len ≤ 9223372036854775807 ∧ ∃ A, U8At w ao len A := by
  rcases Go.Deep.open_slice1 ht ce h with ⟨h0, _⟩ | ⟨a, len', cap', m, n, V, D, Pl, hcs, hb, hl, hm, hmm, _, hx⟩
  · simp at h0
    obtain ⟨rfl, rfl, rfl⟩ := h0
    exact ⟨by omega, fun _ => 0, fun h => by omega, by simp⟩
  · simp at hcs
    obtain ⟨rfl, rfl, rfl⟩ := hcs
    unfold maxLen at hm
    refine ⟨by omega, ?_⟩
    have hlm : len ≤ m := by rw [hmm]; split <;> omega
    have each : ∀ i, i < len → ∃ z : Nat, w.cell? (a.add i) = some (.int .u8 z) ∧ z < 256 := by
      intro i hi
      obtain ⟨h1, h2⟩ := hx i (by omega)
      obtain ⟨z, hz, _, hw⟩ := DataW.trod_int he h2
      have hz' : V i = .int .u8 z := by simpa using hz
      have hb := bounds_u8 hw
      obtain ⟨k, rfl⟩ := Int.eq_ofNat_of_zero_le hb.1
      exact ⟨k, by rw [h1, hz'], by omega⟩
    by_cases h0 : 0 < len
    · obtain ⟨b, off, spot⟩ := a
      obtain ⟨z, hz, _⟩ := each 0 h0
      have hspot : spot = none := by simpa [Addr.add] using World.cell?_spot hz
      subst hspot
      have each' : ∀ i, i < len → ∃ z : Nat, w.cell? ⟨b, off + i, none⟩ = some (.int .u8 z) ∧ z < 256 := fun i hi => by
        have := each i hi
        rwa [Go.WideShapes.add_plain] at this
      refine ⟨fun i => if i < len then (intOf ((w.cell? ⟨b, off + i, none⟩).getD undef)).toNat else 0, fun _ => ⟨b, off, rfl, ?_, ?_⟩, ?_⟩
      · obtain ⟨z, hz, _⟩ := each' 0 h0
        exact lt_of_cell' hz
      · intro i hi
        obtain ⟨z, hz, _⟩ := each' i hi
        simp [hi, hz, intOf]
      · intro i
        by_cases hc : i < len
        · obtain ⟨z, hz, hw⟩ := each' i hc
          simp only [hc, hz, intOf, if_true, Option.getD_some]; omega
        · rw [if_neg hc]; omega
    · exact ⟨fun _ => 0, fun h => absurd h h0, by simp⟩
end

end Go.Proofs.Ytjlfjbdkffppeaa
