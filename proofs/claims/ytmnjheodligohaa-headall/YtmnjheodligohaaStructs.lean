/-
  A struct by value each of whose fields is a bool or an integer, opened.
-/
import Derived.Test.YtmnjheodligohaaRecs
namespace Go.Proofs.Ytmnjheodligohaa
open Go.ChangeShapes Go.WideShapes Go.ChangeAt Go.RowKit

section
variable {H : Type} {enc : TypeId × Value → H} {P : Program} {w : World} {base : Nat} {spare : Nat → Bool} {held : Bool}
theorem open_struct {r : Reach} {b0 : Nat} {t : TypeId} {fs : Array Field} (ks : List SK) {v : Value} {d : DataW H} {ps : List MemPlace} (ht : P.underlying t = some (.struct fs)) (hn : fs.size = ks.length) (ce : P.cellsOf t = ks.length)
    (hf : ∀ (k : Nat) (f : Field), fs[k]? = some f → f.offset = k ∧ P.cellsOf f.type = 1 ∧ ∃ s, ks[k]? = some s ∧ s.of P f.type)
    (hval : Value.okWide P w r b0 t v) (h : DataW.Trod enc P w base spare held t v d ps) :
    ∃ cs : List Value, v = .agg cs.toArray ∧ cs.length = ks.length ∧ ∀ (k : Nat) (s : SK) (u : Value), ks[k]? = some s → cs[k]? = some u → s.ok u := by
  obtain ⟨cs, rfl, hsz⟩ := okWide_struct ht hval
  rw [ce] at hsz
  obtain ⟨l⟩ := cs
  have hl : l.length = ks.length := by simpa using hsz
  refine ⟨l, rfl, hl, ?_⟩
  intro k s u hs hu
  obtain ⟨fuel, hx⟩ := h
  obtain ⟨xs, q, _, _, _, hxl, hfs⟩ := DataW.trod_struct ht hx
  have hk : k < ks.length := by
    rcases Nat.lt_or_ge k ks.length with h | h
    · exact h
    · rw [List.getElem?_eq_none h] at hs; cases hs
  have hfk : fs[k]? = some fs[k] := by simp
  obtain ⟨o1, o3, s', hs', ho⟩ := hf k _ hfk
  rw [hs] at hs'
  cases hs'
  have g := hfs k _ hfk
  rw [o1, o3] at g
  have hxk : xs[k]? = some xs[k] := by simp [hxl, hn, hk]
  rw [hxk] at g
  have h4 : List.take 1 (List.drop k (Value.agg l.toArray).cells.toList) = [u] := by
    have e : (Value.agg l.toArray).cells.toList = l := by simp [Value.cells]
    rw [e, List.drop_eq_getElem_cons (by omega)]
    have : l[k] = u := by
      have := List.getElem?_eq_getElem (l := l) (show k < l.length by omega)
      rw [hu] at this; exact (Option.some.inj this).symm
    simp [this]
  rw [h4] at g
  cases s with
  | b =>
    obtain ⟨z, e0, _⟩ := DataW.trod_bool ho g
    exact ⟨z, by simpa using e0⟩
  | i kd =>
    obtain ⟨z, e0, _, hw⟩ := DataW.trod_int ho g
    exact ⟨z, by simpa using e0, hw⟩
end

end Go.Proofs.Ytmnjheodligohaa
