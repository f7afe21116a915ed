/-
  A list of lists of integers, opened once.
-/
import Derived.Test.YtiknghbfigophaaOpenAsk
import Derived.Test.YtiknghbfigophaaMergeC
namespace Go.Proofs.Ytiknghbfigophaa
open Go.ChangeShapes Go.WideShapes Go.ChangeAt Go.RowKit

section
variable {H : Type} {enc : TypeId × Value → H} {P : Program} {w : World} {base : Nat} {spare : Nat → Bool} {held : Bool}
theorem open_lists {t e ti : TypeId} {fuel len cap : Nat} {ao : Option Addr} {x : DataW H × List MemPlace} (ht : P.underlying t = some (.slice e)) (he : P.underlying e = some (.slice ti)) (hi : P.underlying ti = some (.int .i64))
    (ce : P.cellsOf e = 1) (ci : P.cellsOf ti = 1) (h : DataW.trod enc P w base spare held fuel t [.slice ao len cap] = some x) :
    len ≤ 9223372036854775807 ∧ ∃ LL, LL.length = len ∧ ListsAt w ao LL := by
  rcases Go.Deep.open_slice1 ht ce h with ⟨h0, _⟩ | ⟨a, len', cap', m, n, V, D, Pl, hcs, hb, hl, hm, hmm, _, hx⟩
  · simp at h0
    obtain ⟨rfl, rfl, rfl⟩ := h0
    exact ⟨by omega, [], rfl, ListsAt.nil _ _⟩
  · simp at hcs
    obtain ⟨rfl, rfl, rfl⟩ := hcs
    unfold maxLen at hm
    refine ⟨by omega, ?_⟩
    have hlm : len ≤ m := by rw [hmm]; split <;> omega
    have each : ∀ i, ∃ L : List Int, i < len → ∃ xa c, w.cell? (a.add i) = some (.slice xa L.length c) ∧ IntsAt w xa L := by
      intro i
      by_cases hil : i < len
      · obtain ⟨h1, h2⟩ := hx i (by omega)
        obtain ⟨xa, c, L, e1, _, hI⟩ := open_ints_at he hi ci h2
        exact ⟨L, fun _ => ⟨xa, c, by rw [h1, e1], hI⟩⟩
      · exact ⟨[], fun h => absurd h hil⟩
    obtain ⟨LS, hLS⟩ : ∃ LS : Nat → List Int, ∀ i, i < len → ∃ xa c, w.cell? (a.add i) = some (.slice xa (LS i).length c) ∧ IntsAt w xa (LS i) := ⟨fun i => Classical.choose (each i), fun i hi => Classical.choose_spec (each i) hi⟩
    clear each
    refine ⟨(List.range len).map LS, by simp, ⟨fun h0 => ?_⟩⟩
    have h0' : 0 < len := by simpa using h0
    obtain ⟨b, off, spot⟩ := a
    obtain ⟨xa0, c0, h1, _⟩ := hLS 0 h0'
    have hspot : spot = none := by simpa [Addr.add] using World.cell?_spot h1
    subst hspot
    refine ⟨b, off, rfl, ?_, fun i L hi => ?_⟩
    · rw [Go.WideShapes.add_plain] at h1; exact lt_of_cell2 h1
    · have hil : i < len := by
        have := (List.getElem?_eq_some_iff.1 hi).1
        simpa using this
      have e1 : L = LS i := by simpa [hil] using hi.symm
      obtain ⟨xa, c, h2, h3⟩ := hLS i hil
      rw [Go.WideShapes.add_plain] at h2
      rw [e1]
      exact ⟨xa, c, h2, h3⟩
end

end Go.Proofs.Ytiknghbfigophaa
