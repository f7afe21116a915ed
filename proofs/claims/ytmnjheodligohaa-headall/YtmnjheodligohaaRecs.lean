/-
  A list of structs each of whose fields is a bool or an integer, opened once: 'Recs'. (open_rows is OpenAsk's, for seats without lists of lists.)
-/
import Derived.Test.YtmnjheodligohaaOpens
namespace Go.Proofs.Ytmnjheodligohaa
open Go.ChangeShapes Go.WideShapes Go.ChangeAt Go.RowKit

section
variable {H : Type} {enc : TypeId × Value → H} {P : Program} {w : World} {base : Nat} {spare : Nat → Bool} {held : Bool}

/-- A list of structs, field by field. -/
theorem open_rows {t e : TypeId} {fs : Array Field} {nf : Nat} {fuel len cap : Nat} {ao : Option Addr} {x : DataW H × List MemPlace} (ht : P.underlying t = some (.slice e)) (he : P.underlying e = some (.struct fs))
    (hn : fs.size = nf) (hpos : 0 < nf) (ce : P.cellsOf e = nf) (hf : ∀ (k : Nat) (f : Field), fs[k]? = some f → f.offset = k ∧ P.cellsOf f.type = 1)
    (h : DataW.trod enc P w base spare held fuel t [.slice ao len cap] = some x) :
    len ≤ 9223372036854775807 ∧ (0 < len → ∃ b off, ao = some ⟨b, off, none⟩ ∧ b < w.heap.size ∧ ∀ i k (f : Field), i < len → fs[k]? = some f → ∃ v n y, w.cell? ⟨b, off + (i * nf + k), none⟩ = some v ∧ DataW.trod enc P w base spare held n f.type [v] = some y) := by
  rcases Go.Deep.open_slice ht h with ⟨h0, _⟩ | ⟨a, len', cap', m, n, D, Pl, hcs, hb, hl, hm, hmm, _, hx⟩
  · simp at h0
    obtain ⟨rfl, rfl, rfl⟩ := h0
    exact ⟨by omega, fun h => by omega⟩
  · simp at hcs
    obtain ⟨rfl, rfl, rfl⟩ := hcs
    unfold maxLen at hm
    refine ⟨by omega, fun h0 => ?_⟩
    have hlm : len ≤ m := by rw [hmm]; split <;> omega
    have each : ∀ i k (f : Field), i < len → fs[k]? = some f → ∃ v n y, w.cell? (a.add (i * nf + k)) = some v ∧ DataW.trod enc P w base spare held n f.type [v] = some y := by
      intro i k f hi hk
      have hkn : k < nf := by rw [← hn]; exact (Array.getElem?_eq_some_iff.1 hk).1
      obtain ⟨cs', h1, h2⟩ := hx i (by omega)
      rw [ce] at h1
      obtain ⟨_, hlen, hcell⟩ := World.cells?_some h1
      obtain ⟨xs, q, _, _, _, hxl, hfs⟩ := DataW.trod_struct he h2
      obtain ⟨o1, o3⟩ := hf k _ hk
      have g := hfs k _ hk
      rw [o1, o3] at g
      have hxk : xs[k]? = some xs[k] := by simp [hxl, hn, hkn]
      rw [hxk] at g
      have e := hcell k hkn
      rw [Go.Deep.add_add] at e
      have h3 : cs'[k]? = some cs'[k] := by simp [hlen, hkn]
      have h4 : List.take 1 (List.drop k cs') = [cs'[k]] := by
        rw [List.drop_eq_getElem_cons (by omega)]; rfl
      rw [h4] at g
      exact ⟨cs'[k], _, _, by rw [e, h3], g⟩
    obtain ⟨b, off, spot⟩ := a
    obtain ⟨f0, hf0⟩ : ∃ f, fs[0]? = some f := ⟨fs[0], by simp [hn, hpos]⟩
    obtain ⟨v, _, _, hz, _⟩ := each 0 0 f0 h0 hf0
    have hspot : spot = none := by simpa [Addr.add] using World.cell?_spot hz
    subst hspot
    refine ⟨b, off, rfl, ?_, fun i k f hi hk => ?_⟩
    · rw [Go.WideShapes.add_plain] at hz; exact lt_of_cell' hz
    · obtain ⟨v, n, y, h1, h2⟩ := each i k f hi hk
      rw [Go.WideShapes.add_plain] at h1
      exact ⟨v, n, y, h1, h2⟩
end


/-- What a field is: a bool, or an integer of a kind. -/
inductive SK where
  | b
  | i (k : IntKind)
def SK.ok : SK → Value → Prop
  | .b, v => ∃ z, v = .bool z
  | .i k, v => ∃ z, v = .int k z ∧ (Lit.int k z).wf = true
def SK.of (P : Program) (t : TypeId) : SK → Prop
  | .b => P.underlying t = some .bool
  | .i k => P.underlying t = some (.int k)
/-- n structs, in old memory: A i k is field k of struct i. -/
structure Recs (w : World) (ao : Option Addr) (ks : List SK) (n : Nat) (A : Nat → Nat → Value) : Prop where
  cells : 0 < n → ∃ b off, ao = some ⟨b, off, none⟩ ∧ b < w.heap.size ∧ ∀ i k, i < n → k < ks.length → w.cell? ⟨b, off + (i * ks.length + k), none⟩ = some (A i k)
  ok : ∀ (i k : Nat) (s : SK), i < n → ks[k]? = some s → s.ok (A i k)

section
variable {H : Type} {enc : TypeId × Value → H} {P : Program} {w : World} {base : Nat} {spare : Nat → Bool} {held : Bool}
theorem open_recs {t e : TypeId} {fs : Array Field} (ks : List SK) {fuel len cap : Nat} {ao : Option Addr} {x : DataW H × List MemPlace} (ht : P.underlying t = some (.slice e)) (he : P.underlying e = some (.struct fs))
    (hn : fs.size = ks.length) (hpos : 0 < ks.length) (ce : P.cellsOf e = ks.length) (hf : ∀ (k : Nat) (f : Field), fs[k]? = some f → f.offset = k ∧ P.cellsOf f.type = 1 ∧ ∃ s, ks[k]? = some s ∧ s.of P f.type)
    (h : DataW.trod enc P w base spare held fuel t [.slice ao len cap] = some x) :
    len ≤ 9223372036854775807 ∧ ∃ A, Recs w ao ks len A := by
  obtain ⟨h1, h2⟩ := open_rows (nf := ks.length) ht he hn hpos ce (fun k f hk => ⟨(hf k f hk).1, (hf k f hk).2.1⟩) h
  refine ⟨h1, ?_⟩
  by_cases h0 : 0 < len
  · obtain ⟨b, off, rfl, hbl, hx⟩ := h2 h0
    have each : ∀ i k, ∃ v : Value, i < len → k < ks.length → w.cell? ⟨b, off + (i * ks.length + k), none⟩ = some v ∧ ∀ s : SK, ks[k]? = some s → s.ok v := by
      intro i k
      by_cases hil : i < len ∧ k < ks.length
      · obtain ⟨hi, hk⟩ := hil
        have hfk : fs[k]? = some fs[k] := by simp
        obtain ⟨_, _, s, hs, ho⟩ := hf k _ hfk
        obtain ⟨v, n, y, g, r⟩ := hx i k _ hi hfk
        refine ⟨v, fun _ _ => ⟨g, fun s' hs' => ?_⟩⟩
        rw [hs] at hs'
        cases hs'
        cases s with
        | b =>
          obtain ⟨z, e0, _⟩ := DataW.trod_bool ho r
          exact ⟨z, by simpa using e0⟩
        | i kd =>
          obtain ⟨z, e0, _, hw⟩ := DataW.trod_int ho r
          exact ⟨z, by simpa using e0, hw⟩
      · exact ⟨undef, fun a b => absurd ⟨a, b⟩ hil⟩
    refine ⟨fun i k => Classical.choose (each i k), fun _ => ⟨b, off, rfl, hbl, fun i k hi hk => (Classical.choose_spec (each i k) hi hk).1⟩, fun i k s hi hs => ?_⟩
    have hk : k < ks.length := by
      rcases Nat.lt_or_ge k ks.length with h | h
      · exact h
      · rw [List.getElem?_eq_none h] at hs; cases hs
    exact (Classical.choose_spec (each i k) hi hk).2 s hs
  · exact ⟨fun _ _ => undef, fun h => absurd h h0, fun i k s hi => by omega⟩
end

end Go.Proofs.Ytmnjheodligohaa
