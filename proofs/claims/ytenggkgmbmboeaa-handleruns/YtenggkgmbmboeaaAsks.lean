/-
  A list of structs whose fields are all of type int, opened once for all: what each field of each element holds.
-/
import Derived.Test.YtenggkgmbmboeaaBase
import Derived.ProofKit
import Derived.OpenShut
import Derived.Deep.Slices
namespace Go.Proofs.Ytenggkgmbmboeaa
open Go.ChangeShapes Go.WideShapes Go.ChangeAt Go.RowKit

/-- Of n elements of nf fields each, field k of element i is A i k, in old memory. -/
structure Asks (w : World) (ao : Option Addr) (nf n : Nat) (A : Nat → Nat → Int) : Prop where
  cells : 0 < n → ∃ b off, ao = some ⟨b, off, none⟩ ∧ b < w.heap.size ∧ ∀ i k, i < n → k < nf → w.cell? ⟨b, off + (i * nf + k), none⟩ = some (.int .i64 (A i k))
  low : ∀ i k, -9223372036854775808 ≤ A i k
  high : ∀ i k, A i k ≤ 9223372036854775807

theorem lt_of_cell {w : World} {b o : Nat} {v : Value} (h : w.cell? ⟨b, o, none⟩ = some v) : b < w.heap.size := by
  rcases Nat.lt_or_ge b w.heap.size with h' | h'
  · exact h'
  · simp [World.cell?, Array.getElem?_eq_none h'] at h

section
variable {H : Type} {enc : TypeId × Value → H} {P : Program} {w : World} {base : Nat} {spare : Nat → Bool} {held : Bool}

theorem open_structs {t e : TypeId} {fs : Array Field} {nf : Nat} {fuel len cap : Nat} {ao : Option Addr} {x : DataW H × List MemPlace} (ht : P.underlying t = some (.slice e)) (he : P.underlying e = some (.struct fs))
    (hn : fs.size = nf) (hpos : 0 < nf) (ce : P.cellsOf e = nf) (hf : ∀ (k : Nat) (f : Field), fs[k]? = some f → f.offset = k ∧ P.underlying f.type = some (.int .i64) ∧ P.cellsOf f.type = 1)
    (h : DataW.trod enc P w base spare held fuel t [.slice ao len cap] = some x) :
    len ≤ 9223372036854775807 ∧ ∃ A, Asks w ao nf len A := by
  rcases Go.Deep.open_slice ht h with ⟨h0, _⟩ | ⟨a, len', cap', m, n, D, Pl, hcs, hb, hl, hm, hmm, _, hx⟩
  · simp at h0
    obtain ⟨rfl, rfl, rfl⟩ := h0
    exact ⟨by omega, fun _ _ => 0, fun h => by omega, by simp, by simp⟩
  · simp at hcs
    obtain ⟨rfl, rfl, rfl⟩ := hcs
    unfold maxLen at hm
    refine ⟨by omega, ?_⟩
    have hlm : len ≤ m := by rw [hmm]; split <;> omega
    have each : ∀ i k, i < len → k < nf → ∃ z : Int, w.cell? (a.add (i * nf + k)) = some (.int .i64 z) ∧ (Lit.int .i64 z).wf = true := by
      intro i k hi hk
      obtain ⟨cs', h1, h2⟩ := hx i (by omega)
      rw [ce] at h1
      obtain ⟨_, hlen, hcell⟩ := World.cells?_some h1
      obtain ⟨xs, q, _, _, _, hxl, hfs⟩ := DataW.trod_struct he h2
      have hfk : fs[k]? = some fs[k] := by simp [hn, hk]
      obtain ⟨o1, o2, o3⟩ := hf k _ hfk
      have g := hfs k _ hfk
      rw [o1, o3] at g
      have hxk : xs[k]? = some xs[k] := by simp [hxl, hn, hk]
      rw [hxk] at g
      obtain ⟨z, hz, _, hw⟩ := DataW.trod_int o2 g
      refine ⟨z, ?_, hw⟩
      have e := hcell k hk
      rw [Go.Deep.add_add] at e
      rw [e]
      have h3 : (List.take 1 (List.drop k cs'))[0]? = some (.int .i64 z) := by rw [hz]; rfl
      simpa [List.getElem?_take, List.getElem?_drop] using h3
    by_cases h0 : 0 < len
    · obtain ⟨b, off, spot⟩ := a
      obtain ⟨z, hz, _⟩ := each 0 0 h0 hpos
      have hspot : spot = none := by simpa [Addr.add] using World.cell?_spot hz
      subst hspot
      refine ⟨fun i k => if i < len ∧ k < nf then intOf ((w.cell? ⟨b, off + (i * nf + k), none⟩).getD undef) else 0, fun _ => ⟨b, off, rfl, ?_, ?_⟩, ?_, ?_⟩
      · have hz' : w.cell? ⟨b, off + 0, none⟩ = some (.int .i64 z) := by rw [← Go.WideShapes.add_plain]; simpa using hz
        exact lt_of_cell hz'
      · intro i k hi hk
        obtain ⟨z, hz, _⟩ := each i k hi hk
        rw [Go.WideShapes.add_plain] at hz
        simp [hi, hk, hz, intOf]
      · intro i k
        by_cases hc : i < len ∧ k < nf
        · obtain ⟨z, hz, hw⟩ := each i k hc.1 hc.2
          rw [Go.WideShapes.add_plain] at hz
          have := bounds_i64 hw
          simp only [hc, hz, intOf, and_self, if_true, Option.getD_some]; omega
        · rw [if_neg hc]; omega
      · intro i k
        by_cases hc : i < len ∧ k < nf
        · obtain ⟨z, hz, hw⟩ := each i k hc.1 hc.2
          rw [Go.WideShapes.add_plain] at hz
          have := bounds_i64 hw
          simp only [hc, hz, intOf, and_self, if_true, Option.getD_some]; omega
        · rw [if_neg hc]; omega
    · exact ⟨fun _ _ => 0, fun h => absurd h h0, by simp, by simp⟩
end

end Go.Proofs.Ytenggkgmbmboeaa
