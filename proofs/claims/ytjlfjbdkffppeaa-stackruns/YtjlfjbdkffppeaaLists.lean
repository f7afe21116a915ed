/-
  A list of integers of one kind, opened once for all: what each element holds.
-/
import Derived.Test.YtjlfjbdkffppeaaBools
import Derived.ProofKit
import Derived.OpenShut
import Derived.Deep.Slices
namespace Go.Proofs.Ytjlfjbdkffppeaa
open Go.ChangeShapes Go.WideShapes Go.ChangeAt Go.RowKit

/-- A slice of n integers of kind k, L, in old memory. -/
structure ListAt (w : World) (ao : Option Addr) (k : IntKind) (n : Nat) (L : List Int) : Prop where
  len : L.length = n
  cells : 0 < n → ∃ b off, ao = some ⟨b, off, none⟩ ∧ b < w.heap.size ∧ ∀ i, i < n → w.cell? ⟨b, off + i, none⟩ = some (.int k (L[i]?.getD 0))
  wf : ∀ i, i < n → (Lit.int k (L[i]?.getD 0)).wf = true
theorem ListAt.keep {S : List Nat} {w w' : World} {ao : Option Addr} {k : IntKind} {n : Nat} {L : List Int} (h : ListAt w ao k n L) (hK : Keep S w w') (ho : ∀ b, b ∈ S → w.heap.size ≤ b) : ListAt w' ao k n L := by
  refine ⟨h.len, fun h0 => ?_, h.wf⟩
  obtain ⟨b, off, rfl, hb, hc⟩ := h.cells h0
  exact ⟨b, off, rfl, Nat.lt_of_lt_of_le hb hK.size, fun i hi => (hK.cell hb (fun e => by have := ho b e; omega) _).trans (hc i hi)⟩
theorem ListAt.ints {w : World} {ao : Option Addr} {n : Nat} {L : List Int} (h : ListAt w ao .i64 n L) : IntsAt w ao L := by
  refine ⟨fun h0 => ?_, fun i => ?_, fun i => ?_⟩
  · rw [h.len] at h0 ⊢; exact h.cells h0
  · by_cases hi : i < n
    · have := bounds_i64 (h.wf i hi); omega
    · rw [List.getElem?_eq_none (by rw [h.len]; omega)]; simp
  · by_cases hi : i < n
    · have := bounds_i64 (h.wf i hi); omega
    · rw [List.getElem?_eq_none (by rw [h.len]; omega)]; simp

/-- One integer, told by a list that is new. -/
theorem IntsAt.single (w : World) (t : TypeId) (x : Int) (h1 : -9223372036854775808 ≤ x) (h2 : x ≤ 9223372036854775807) : IntsAt (w.alloc (.cells #[.int .i64 x] t)) (some ⟨w.heap.size, 0, none⟩) [x] := by
  refine ⟨fun _ => ⟨w.heap.size, 0, rfl, by simp, fun i hi => ?_⟩, fun i => ?_, fun i => ?_⟩
  · obtain rfl : i = 0 := by simpa using hi
    exact cell_of_one (heap_alloc_new w _)
  · rcases i with _ | i <;> simp; omega
  · rcases i with _ | i <;> simp; omega

theorem lt_of_cell2 {w : World} {b o : Nat} {v : Value} (h : w.cell? ⟨b, o, none⟩ = some v) : b < w.heap.size := by
  rcases Nat.lt_or_ge b w.heap.size with h' | h'
  · exact h'
  · simp [World.cell?, Array.getElem?_eq_none h'] at h

section
variable {H : Type} {enc : TypeId × Value → H} {P : Program} {w : World} {base : Nat} {spare : Nat → Bool} {held : Bool}

theorem open_list {t e : TypeId} {k : IntKind} {fuel len cap : Nat} {ao : Option Addr} {x : DataW H × List MemPlace} (ht : P.underlying t = some (.slice e)) (he : P.underlying e = some (.int k))
    (ce : P.cellsOf e = 1) (h : DataW.trod enc P w base spare held fuel t [.slice ao len cap] = some x) :
    len ≤ 9223372036854775807 ∧ ∃ L, ListAt w ao k len L := by
  rcases Go.Deep.open_slice1 ht ce h with ⟨h0, _⟩ | ⟨a, len', cap', m, n, V, D, Pl, hcs, hb, hl, hm, hmm, _, hx⟩
  · simp at h0
    obtain ⟨rfl, rfl, rfl⟩ := h0
    exact ⟨by omega, [], rfl, fun h => by omega, fun i h => by omega⟩
  · simp at hcs
    obtain ⟨rfl, rfl, rfl⟩ := hcs
    unfold maxLen at hm
    refine ⟨by omega, ?_⟩
    have hlm : len ≤ m := by rw [hmm]; split <;> omega
    have each : ∀ i, i < len → ∃ z : Int, w.cell? (a.add i) = some (.int k z) ∧ (Lit.int k z).wf = true := by
      intro i hi
      obtain ⟨h1, h2⟩ := hx i (by omega)
      obtain ⟨z, hz, _, hw⟩ := DataW.trod_int he h2
      have hz' : V i = .int k z := by simpa using hz
      exact ⟨z, by rw [h1, hz'], hw⟩
    obtain ⟨L, hL, hc⟩ : ∃ L : List Int, L.length = len ∧ ∀ i, i < len → w.cell? (a.add i) = some (.int k (L[i]?.getD 0)) ∧ (Lit.int k (L[i]?.getD 0)).wf = true := by
      refine ⟨(List.range len).map (fun i => intOf ((w.cell? (a.add i)).getD undef)), by simp, fun i hi => ?_⟩
      obtain ⟨z, hz, hw⟩ := each i hi
      have : ((List.range len).map (fun i => intOf ((w.cell? (a.add i)).getD undef)))[i]?.getD 0 = z := by simp [hi, hz, intOf]
      rw [this]; exact ⟨hz, hw⟩
    refine ⟨L, hL, fun h0 => ?_, fun i hi => (hc i hi).2⟩
    obtain ⟨b, off, spot⟩ := a
    have h1 := (hc 0 (by omega)).1
    have hspot : spot = none := by simpa [Addr.add] using World.cell?_spot h1
    subst hspot
    refine ⟨b, off, rfl, ?_, fun i hi => ?_⟩
    · rw [Go.WideShapes.add_plain] at h1; exact lt_of_cell2 h1
    · have := (hc i (by omega)).1
      rwa [Go.WideShapes.add_plain] at this
end

end Go.Proofs.Ytjlfjbdkffppeaa
