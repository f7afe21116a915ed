/-
  A list of classes, opened once: each one's fields and its addresses.
-/
import Derived.Test.YtdpaffnpedcmpaaGreatOpenAsk
import Derived.Test.YtdpaffnpedcmpaaGreatPart3
namespace Go.Proofs.YtdpaffnpedcmpaaGreat
open Go.ChangeShapes Go.WideShapes Go.ChangeAt Go.RowKit

/-- n classes, in old memory. -/
structure ClsAt (w : World) (ao : Option Addr) (n : Nat) (A : Nat → CV) : Prop where
  cells : 0 < n → ∃ b off, ao = some ⟨b, off, none⟩ ∧ b < w.heap.size ∧ ∀ i, i < n →
    w.cell? ⟨b, off + i * 2, none⟩ = some (.int .i64 (A i).f) ∧ w.cell? ⟨b, off + i * 2 + 1, none⟩ = some (.slice (A i).ao (A i).L.length (A i).cp)
  ok : ∀ i, i < n → IntsAt w (A i).ao (A i).L ∧ ((A i).ao = none → (A i).cp = 0) ∧ (A i).L.length ≤ 9223372036854775807 ∧ -9223372036854775808 ≤ (A i).f ∧ (A i).f ≤ 9223372036854775807

section
variable {H : Type} {enc : TypeId × Value → H} {P : Program} {w : World} {base : Nat} {spare : Nat → Bool} {held : Bool}
theorem open_ints_cap {t e : TypeId} {fuel : Nat} {v : Value} {x : DataW H × List MemPlace} (ht : P.underlying t = some (.slice e)) (he : P.underlying e = some (.int .i64))
    (ce : P.cellsOf e = 1) (h : DataW.trod enc P w base spare held fuel t [v] = some x) :
    ∃ ao cap L, v = .slice ao L.length cap ∧ L.length ≤ 9223372036854775807 ∧ IntsAt w ao L ∧ (ao = none → cap = 0) := by
  obtain ⟨ao, cap, L, hv, hl, hI⟩ := open_ints_at ht he ce h
  refine ⟨ao, cap, L, hv, hl, hI, fun e => ?_⟩
  subst e
  rcases Go.Deep.open_slice1 ht ce h with ⟨h0, _⟩ | ⟨a, len, cap', m, n, V, D, Pl, hcs, hb, hl, hm, hmm, _, hx⟩
  · rw [hv] at h0; simp at h0; exact h0.2
  · rw [hv] at hcs; simp at hcs
theorem open_cls {t e ts ti : TypeId} {f0 f1 : Field} {fuel len cap : Nat} {ao : Option Addr} {x : DataW H × List MemPlace} (ht : P.underlying t = some (.slice e)) (he : P.underlying e = some (.struct #[f0, f1]))
    (ce : P.cellsOf e = 2) (ho : f0.offset = 0 ∧ f1.offset = 1) (hty : f0.type = ti ∧ f1.type = ts)
    (hc : P.cellsOf ts = 1 ∧ P.cellsOf ti = 1) (hs : P.underlying ts = some (.slice ti)) (hi : P.underlying ti = some (.int .i64))
    (h : DataW.trod enc P w base spare held fuel t [.slice ao len cap] = some x) :
    len ≤ 9223372036854775807 ∧ ∃ A, ClsAt w ao len A := by
  obtain ⟨o0, o1⟩ := ho
  obtain ⟨t0, t1⟩ := hty
  obtain ⟨c1, c2⟩ := hc
  obtain ⟨h1, h2⟩ := open_rows (nf := 2) ht he rfl (by omega) ce (by
    intro k f hk
    rcases k with _ | _ | k
    all_goals (simp at hk; try subst hk)
    · exact ⟨o0, by rw [t0]; exact c2⟩
    · exact ⟨o1, by rw [t1]; exact c1⟩) h
  refine ⟨h1, ?_⟩
  by_cases h0 : 0 < len
  · obtain ⟨b, off, rfl, hbl, hx⟩ := h2 h0
    have each : ∀ i, ∃ a : CV, i < len → (w.cell? ⟨b, off + i * 2, none⟩ = some (.int .i64 a.f) ∧ w.cell? ⟨b, off + i * 2 + 1, none⟩ = some (.slice a.ao a.L.length a.cp)) ∧
        IntsAt w a.ao a.L ∧ (a.ao = none → a.cp = 0) ∧ a.L.length ≤ 9223372036854775807 ∧ -9223372036854775808 ≤ a.f ∧ a.f ≤ 9223372036854775807 := by
      intro i
      by_cases hil : i < len
      · obtain ⟨v0, n0, y0, g0, r0⟩ := hx i 0 f0 hil rfl
        obtain ⟨v1, n1, y1, g1, r1⟩ := hx i 1 f1 hil rfl
        rw [t0] at r0
        rw [t1] at r1
        obtain ⟨z0, e0, _, w0⟩ := DataW.trod_int hi r0
        obtain ⟨ao', cp, L, e1, hl, hI, hcp⟩ := open_ints_cap hs hi c2 r1
        have e0' : v0 = .int .i64 z0 := by simpa using e0
        have b0 := bounds_i64 w0
        subst e0' e1
        exact ⟨⟨z0, ao', cp, L⟩, fun _ => ⟨⟨g0, g1⟩, hI, hcp, hl, by simp only; omega, by simp only; omega⟩⟩
      · exact ⟨⟨0, none, 0, []⟩, fun h => absurd h hil⟩
    exact ⟨fun i => Classical.choose (each i), fun _ => ⟨b, off, rfl, hbl, fun i hi => (Classical.choose_spec (each i) hi).1⟩, fun i hi => (Classical.choose_spec (each i) hi).2⟩
  · exact ⟨fun _ => ⟨0, none, 0, []⟩, fun h => absurd h h0, fun i hi => by omega⟩
end

end Go.Proofs.YtdpaffnpedcmpaaGreat
