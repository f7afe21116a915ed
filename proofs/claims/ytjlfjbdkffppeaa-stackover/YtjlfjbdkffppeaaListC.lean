/-
  Lists of integers that came in, with what is known of their capacity; a list of such lists.
-/
import Derived.Test.YtjlfjbdkffppeaaLists
import Derived.Test.YtjlfjbdkffppeaaOpenAsk
namespace Go.Proofs.Ytjlfjbdkffppeaa
open Go.ChangeShapes Go.WideShapes Go.ChangeAt Go.RowKit

/-- A slice's length and capacity. -/
def capOk (ao : Option Addr) (len cap : Nat) : Prop := len ≤ cap ∧ cap ≤ 9223372036854775807 ∧ (ao = none → cap = 0)
/-- A list of lists of integers in memory, a row of slices, with each one's capacity. -/
structure ListsC (w : World) (ao : Option Addr) (LL : List (List Int)) : Prop where
  cells : 0 < LL.length → ∃ b off, ao = some ⟨b, off, none⟩ ∧ b < w.heap.size ∧ ∀ (i : Nat) (L : List Int), LL[i]? = some L → ∃ xa c, w.cell? ⟨b, off + i, none⟩ = some (.slice xa L.length c) ∧ IntsAt w xa L ∧ capOk xa L.length c
theorem ListsC.keep {w w' : World} {ao : Option Addr} {LL : List (List Int)} (h : ListsC w ao LL) (K : Keep [] w w') : ListsC w' ao LL := by
  refine ⟨fun h0 => ?_⟩
  obtain ⟨b, off, e, hb, hc⟩ := h.cells h0
  refine ⟨b, off, e, Nat.lt_of_lt_of_le hb K.size, fun i L hi => ?_⟩
  obtain ⟨xa, c, h1, h2, h3⟩ := hc i L hi
  exact ⟨xa, c, (K.cell hb (by simp) _).trans h1, h2.keep K (fun _ a _ => by simp), h3⟩
theorem ListsC.nil (w : World) (ao : Option Addr) : ListsC w ao [] := ⟨fun h => by simp at h⟩

section
variable {H : Type} {enc : TypeId × Value → H} {P : Program} {w : World} {base : Nat} {spare : Nat → Bool} {held : Bool}
theorem open_cap {t e : TypeId} {fuel len cap : Nat} {ao : Option Addr} {x : DataW H × List MemPlace} (ht : P.underlying t = some (.slice e)) (ce : P.cellsOf e = 1) (h : DataW.trod enc P w base spare held fuel t [.slice ao len cap] = some x) : capOk ao len cap := by
  rcases Go.Deep.open_slice1 ht ce h with ⟨h0, _⟩ | ⟨a, len', cap', m, n, V, D, Pl, hcs, hb, hl, hm, hmm, _, hx⟩
  · simp at h0
    obtain ⟨rfl, rfl, rfl⟩ := h0
    exact ⟨by omega, by omega, fun _ => rfl⟩
  · simp at hcs
    obtain ⟨rfl, rfl, rfl⟩ := hcs
    unfold maxLen at hm
    exact ⟨hl, by omega, fun e => by cases e⟩
theorem open_listc {t e : TypeId} {k : IntKind} {fuel len cap : Nat} {ao : Option Addr} {x : DataW H × List MemPlace} (ht : P.underlying t = some (.slice e)) (he : P.underlying e = some (.int k))
    (ce : P.cellsOf e = 1) (h : DataW.trod enc P w base spare held fuel t [.slice ao len cap] = some x) :
    len ≤ 9223372036854775807 ∧ ∃ L, ListAt w ao k len L ∧ capOk ao len cap := by
  obtain ⟨h1, L, h2⟩ := open_list ht he ce h
  exact ⟨h1, L, h2, open_cap ht ce h⟩
theorem open_listsc {t e ti : TypeId} {fuel len cap : Nat} {ao : Option Addr} {x : DataW H × List MemPlace} (ht : P.underlying t = some (.slice e)) (he : P.underlying e = some (.slice ti)) (hi : P.underlying ti = some (.int .i64))
    (ce : P.cellsOf e = 1) (ci : P.cellsOf ti = 1) (h : DataW.trod enc P w base spare held fuel t [.slice ao len cap] = some x) :
    len ≤ 9223372036854775807 ∧ ∃ LL, LL.length = len ∧ ListsC w ao LL := by
  rcases Go.Deep.open_slice1 ht ce h with ⟨h0, _⟩ | ⟨a, len', cap', m, n, V, D, Pl, hcs, hb, hl, hm, hmm, _, hx⟩
  · simp at h0
    obtain ⟨rfl, rfl, rfl⟩ := h0
    exact ⟨by omega, [], rfl, ListsC.nil _ _⟩
  · simp at hcs
    obtain ⟨rfl, rfl, rfl⟩ := hcs
    unfold maxLen at hm
    refine ⟨by omega, ?_⟩
    have hlm : len ≤ m := by rw [hmm]; split <;> omega
    have each : ∀ i, ∃ L : List Int, i < len → ∃ xa c, w.cell? (a.add i) = some (.slice xa L.length c) ∧ IntsAt w xa L ∧ capOk xa L.length c := by
      intro i
      by_cases hil : i < len
      · obtain ⟨h1, h2⟩ := hx i (by omega)
        obtain ⟨xa, c, L, e1, _, hI⟩ := open_ints_at he hi ci h2
        rw [e1] at h2
        exact ⟨L, fun _ => ⟨xa, c, by rw [h1, e1], hI, open_cap he ci h2⟩⟩
      · exact ⟨[], fun h => absurd h hil⟩
    obtain ⟨LS, hLS⟩ : ∃ LS : Nat → List Int, ∀ i, i < len → ∃ xa c, w.cell? (a.add i) = some (.slice xa (LS i).length c) ∧ IntsAt w xa (LS i) ∧ capOk xa (LS i).length c := ⟨fun i => Classical.choose (each i), fun i hi => Classical.choose_spec (each i) hi⟩
    clear each
    refine ⟨(List.range len).map LS, by simp, ⟨fun h0 => ?_⟩⟩
    have h0' : 0 < len := by simpa using h0
    obtain ⟨b, off, spot⟩ := a
    obtain ⟨xa0, c0, h1, _⟩ := hLS 0 h0'
    have hspot : spot = none := by simpa [Addr.add] using World.cell?_spot h1
    subst hspot
    refine ⟨b, off, rfl, ?_, fun i L hi => ?_⟩
    · rw [Go.WideShapes.add_plain] at h1; exact lt_of_cell2 h1
    · have hil : i < len := by
        have := (List.getElem?_eq_some_iff.1 hi).1
        simpa using this
      have e1 : L = LS i := by simpa [hil] using hi.symm
      obtain ⟨xa, c, h2, h3⟩ := hLS i hil
      rw [Go.WideShapes.add_plain] at h2
      rw [e1]
      exact ⟨xa, c, h2, h3⟩
end

end Go.Proofs.Ytjlfjbdkffppeaa
