/-
  A list of structs each of whose fields takes one cell, opened field by field; a list of integers; the asks of the second folder.
-/
import Derived.Test.YtjlfjbdkffppeaaOpens
namespace Go.Proofs.Ytjlfjbdkffppeaa
open Go.ChangeShapes Go.WideShapes Go.ChangeAt Go.RowKit

section
variable {H : Type} {enc : TypeId × Value → H} {P : Program} {w : World} {base : Nat} {spare : Nat → Bool} {held : Bool}

/-- A list of integers. -/
theorem open_ints_at {t e : TypeId} {fuel : Nat} {v : Value} {x : DataW H × List MemPlace} (ht : P.underlying t = some (.slice e)) (he : P.underlying e = some (.int .i64))
    (ce : P.cellsOf e = 1) (h : DataW.trod enc P w base spare held fuel t [v] = some x) :
    ∃ ao cap L, v = .slice ao L.length cap ∧ L.length ≤ 9223372036854775807 ∧ IntsAt w ao L := by
  rcases Go.Deep.open_slice1 ht ce h with ⟨h0, _⟩ | ⟨a, len, cap, m, n, V, D, Pl, hcs, hb, hl, hm, hmm, _, hx⟩
  · exact ⟨none, 0, [], by simpa using h0, by simp, fun h => by simp at h, by simp, by simp⟩
  · unfold maxLen at hm
    have hlm : len ≤ m := by rw [hmm]; split <;> omega
    have each : ∀ i, i < len → ∃ z : Int, w.cell? (a.add i) = some (.int .i64 z) ∧ (Lit.int .i64 z).wf = true := by
      intro i hi
      obtain ⟨h1, h2⟩ := hx i (by omega)
      obtain ⟨z, hz, _, hw⟩ := DataW.trod_int he h2
      have hz' : V i = .int .i64 z := by simpa using hz
      exact ⟨z, by rw [h1, hz'], hw⟩
    obtain ⟨L, hL, hc⟩ : ∃ L : List Int, L.length = len ∧ ∀ i, i < len → w.cell? (a.add i) = some (.int .i64 (L[i]?.getD 0)) ∧ (Lit.int .i64 (L[i]?.getD 0)).wf = true := by
      refine ⟨(List.range len).map (fun i => intOf ((w.cell? (a.add i)).getD undef)), by simp, fun i hi => ?_⟩
      obtain ⟨z, hz, hw⟩ := each i hi
      have : ((List.range len).map (fun i => intOf ((w.cell? (a.add i)).getD undef)))[i]?.getD 0 = z := by simp [hi, hz, intOf]
      rw [this]; exact ⟨hz, hw⟩
    refine ⟨some a, cap, L, by rw [hL]; simpa using hcs, by omega, fun h0 => ?_, fun i => ?_, fun i => ?_⟩
    · obtain ⟨b, off, spot⟩ := a
      have h1 := (hc 0 (by omega)).1
      have hspot : spot = none := by simpa [Addr.add] using World.cell?_spot h1
      subst hspot
      refine ⟨b, off, rfl, ?_, fun i hi => ?_⟩
      · rw [Go.WideShapes.add_plain] at h1; exact lt_of_cell' h1
      · have := (hc i (by omega)).1
        rwa [Go.WideShapes.add_plain] at this
    · by_cases hi : i < len
      · have := bounds_i64 (hc i hi).2; omega
      · rw [List.getElem?_eq_none (by omega)]; simp
    · by_cases hi : i < len
      · have := bounds_i64 (hc i hi).2; omega
      · rw [List.getElem?_eq_none (by omega)]; simp

/-- A list of structs, field by field. -/
theorem open_rows {t e : TypeId} {fs : Array Field} {nf : Nat} {fuel len cap : Nat} {ao : Option Addr} {x : DataW H × List MemPlace} (ht : P.underlying t = some (.slice e)) (he : P.underlying e = some (.struct fs))
    (hn : fs.size = nf) (hpos : 0 < nf) (ce : P.cellsOf e = nf) (hf : ∀ (k : Nat) (f : Field), fs[k]? = some f → f.offset = k ∧ P.cellsOf f.type = 1)
    (h : DataW.trod enc P w base spare held fuel t [.slice ao len cap] = some x) :
    len ≤ 9223372036854775807 ∧ (0 < len → ∃ b off, ao = some ⟨b, off, none⟩ ∧ b < w.heap.size ∧ ∀ i k (f : Field), i < len → fs[k]? = some f → ∃ v n y, w.cell? ⟨b, off + (i * nf + k), none⟩ = some v ∧ DataW.trod enc P w base spare held n f.type [v] = some y) := by
  rcases Go.Deep.open_slice ht h with ⟨h0, _⟩ | ⟨a, len', cap', m, n, D, Pl, hcs, hb, hl, hm, hmm, _, hx⟩
  · simp at h0
    obtain ⟨rfl, rfl, rfl⟩ := h0
    exact ⟨by omega, fun h => by omega⟩
  · simp at hcs
    obtain ⟨rfl, rfl, rfl⟩ := hcs
    unfold maxLen at hm
    refine ⟨by omega, fun h0 => ?_⟩
    have hlm : len ≤ m := by rw [hmm]; split <;> omega
    have each : ∀ i k (f : Field), i < len → fs[k]? = some f → ∃ v n y, w.cell? (a.add (i * nf + k)) = some v ∧ DataW.trod enc P w base spare held n f.type [v] = some y := by
      intro i k f hi hk
      have hkn : k < nf := by rw [← hn]; exact (Array.getElem?_eq_some_iff.1 hk).1
      obtain ⟨cs', h1, h2⟩ := hx i (by omega)
      rw [ce] at h1
      obtain ⟨_, hlen, hcell⟩ := World.cells?_some h1
      obtain ⟨xs, q, _, _, _, hxl, hfs⟩ := DataW.trod_struct he h2
      obtain ⟨o1, o3⟩ := hf k _ hk
      have g := hfs k _ hk
      rw [o1, o3] at g
      have hxk : xs[k]? = some xs[k] := by simp [hxl, hn, hkn]
      rw [hxk] at g
      have e := hcell k hkn
      rw [Go.Deep.add_add] at e
      have h3 : cs'[k]? = some cs'[k] := by simp [hlen, hkn]
      have h4 : List.take 1 (List.drop k cs') = [cs'[k]] := by
        rw [List.drop_eq_getElem_cons (by omega)]; rfl
      rw [h4] at g
      exact ⟨cs'[k], _, _, by rw [e, h3], g⟩
    obtain ⟨b, off, spot⟩ := a
    obtain ⟨f0, hf0⟩ : ∃ f, fs[0]? = some f := ⟨fs[0], by simp [hn, hpos]⟩
    obtain ⟨v, _, _, hz, _⟩ := each 0 0 f0 h0 hf0
    have hspot : spot = none := by simpa [Addr.add] using World.cell?_spot hz
    subst hspot
    refine ⟨b, off, rfl, ?_, fun i k f hi hk => ?_⟩
    · rw [Go.WideShapes.add_plain] at hz; exact lt_of_cell' hz
    · obtain ⟨v, n, y, h1, h2⟩ := each i k f hi hk
      rw [Go.WideShapes.add_plain] at h1
      exact ⟨v, n, y, h1, h2⟩
end

/-- One ask of the second folder. -/
structure AskV where
  is : Bool
  at_ : Option Addr
  cp : Nat
  L : List Int
  n : Int
  k : Int

structure AskOk (w : World) (a : AskV) : Prop where
  ints : IntsAt w a.at_ a.L
  len : a.L.length ≤ 9223372036854775807
  n1 : -9223372036854775808 ≤ a.n
  n2 : a.n ≤ 9223372036854775807
  k1 : -9223372036854775808 ≤ a.k
  k2 : a.k ≤ 9223372036854775807

/-- n asks, in old memory. -/
structure AsksAt (w : World) (ao : Option Addr) (n : Nat) (A : Nat → AskV) : Prop where
  cells : 0 < n → ∃ b off, ao = some ⟨b, off, none⟩ ∧ b < w.heap.size ∧ ∀ i, i < n →
    w.cell? ⟨b, off + i * 4, none⟩ = some (.bool (A i).is) ∧ w.cell? ⟨b, off + i * 4 + 1, none⟩ = some (.slice (A i).at_ (A i).L.length (A i).cp) ∧
    w.cell? ⟨b, off + i * 4 + 2, none⟩ = some (.int .i64 (A i).n) ∧ w.cell? ⟨b, off + i * 4 + 3, none⟩ = some (.int .i64 (A i).k)
  ok : ∀ i, i < n → AskOk w (A i)

section
variable {H : Type} {enc : TypeId × Value → H} {P : Program} {w : World} {base : Nat} {spare : Nat → Bool} {held : Bool}
theorem open_asks2 {t e tb ts ti : TypeId} {f0 f1 f2 f3 : Field} {fuel len cap : Nat} {ao : Option Addr} {x : DataW H × List MemPlace} (ht : P.underlying t = some (.slice e)) (he : P.underlying e = some (.struct #[f0, f1, f2, f3]))
    (ce : P.cellsOf e = 4) (ho : f0.offset = 0 ∧ f1.offset = 1 ∧ f2.offset = 2 ∧ f3.offset = 3) (hty : f0.type = tb ∧ f1.type = ts ∧ f2.type = ti ∧ f3.type = ti)
    (hc : P.cellsOf tb = 1 ∧ P.cellsOf ts = 1 ∧ P.cellsOf ti = 1) (hb : P.underlying tb = some .bool) (hs : P.underlying ts = some (.slice ti)) (hi : P.underlying ti = some (.int .i64))
    (h : DataW.trod enc P w base spare held fuel t [.slice ao len cap] = some x) :
    len ≤ 9223372036854775807 ∧ ∃ A, AsksAt w ao len A := by
  obtain ⟨o0, o1, o2, o3⟩ := ho
  obtain ⟨t0, t1, t2, t3⟩ := hty
  obtain ⟨c0, c1, c2⟩ := hc
  obtain ⟨h1, h2⟩ := open_rows (nf := 4) ht he rfl (by omega) ce (by
    intro k f hk
    rcases k with _ | _ | _ | _ | k
    all_goals (simp at hk; try subst hk)
    · exact ⟨o0, by rw [t0]; exact c0⟩
    · exact ⟨o1, by rw [t1]; exact c1⟩
    · exact ⟨o2, by rw [t2]; exact c2⟩
    · exact ⟨o3, by rw [t3]; exact c2⟩) h
  refine ⟨h1, ?_⟩
  by_cases h0 : 0 < len
  · obtain ⟨b, off, rfl, hbl, hx⟩ := h2 h0
    have each : ∀ i, ∃ a : AskV, i < len → (w.cell? ⟨b, off + i * 4, none⟩ = some (.bool a.is) ∧ w.cell? ⟨b, off + i * 4 + 1, none⟩ = some (.slice a.at_ a.L.length a.cp) ∧
        w.cell? ⟨b, off + i * 4 + 2, none⟩ = some (.int .i64 a.n) ∧ w.cell? ⟨b, off + i * 4 + 3, none⟩ = some (.int .i64 a.k)) ∧ AskOk w a := by
      intro i
      by_cases hil : i < len
      · obtain ⟨v0, n0, y0, g0, r0⟩ := hx i 0 f0 hil rfl
        obtain ⟨v1, n1, y1, g1, r1⟩ := hx i 1 f1 hil rfl
        obtain ⟨v2, n2, y2, g2, r2⟩ := hx i 2 f2 hil rfl
        obtain ⟨v3, n3, y3, g3, r3⟩ := hx i 3 f3 hil rfl
        rw [t0] at r0
        rw [t1] at r1
        rw [t2] at r2
        rw [t3] at r3
        obtain ⟨z0, e0, _⟩ := DataW.trod_bool hb r0
        obtain ⟨ao', cp, L, e1, hl, hI⟩ := open_ints_at hs hi c2 r1
        obtain ⟨z2, e2, _, w2⟩ := DataW.trod_int hi r2
        obtain ⟨z3, e3, _, w3⟩ := DataW.trod_int hi r3
        have e0' : v0 = .bool z0 := by simpa using e0
        have e2' : v2 = .int .i64 z2 := by simpa using e2
        have e3' : v3 = .int .i64 z3 := by simpa using e3
        have b2 := bounds_i64 w2
        have b3 := bounds_i64 w3
        subst e0' e1 e2' e3'
        exact ⟨⟨z0, ao', cp, L, z2, z3⟩, fun _ => ⟨⟨g0, g1, g2, g3⟩, ⟨hI, hl, by simp only; omega, by simp only; omega, by simp only; omega, by simp only; omega⟩⟩⟩
      · exact ⟨⟨false, none, 0, [], 0, 0⟩, fun h => absurd h hil⟩
    obtain ⟨A, hA⟩ : ∃ A : Nat → AskV, ∀ i, i < len → (w.cell? ⟨b, off + i * 4, none⟩ = some (.bool (A i).is) ∧ w.cell? ⟨b, off + i * 4 + 1, none⟩ = some (.slice (A i).at_ (A i).L.length (A i).cp) ∧
        w.cell? ⟨b, off + i * 4 + 2, none⟩ = some (.int .i64 (A i).n) ∧ w.cell? ⟨b, off + i * 4 + 3, none⟩ = some (.int .i64 (A i).k)) ∧ AskOk w (A i) := ⟨fun i => Classical.choose (each i), fun i => Classical.choose_spec (each i)⟩
    exact ⟨A, fun _ => ⟨b, off, rfl, hbl, fun i hi => (hA i hi).1⟩, fun i hi => (hA i hi).2⟩
  · exact ⟨fun _ => ⟨false, none, 0, [], 0, 0⟩, fun h => absurd h h0, fun i hi => by omega⟩
end

end Go.Proofs.Ytjlfjbdkffppeaa
