/-
  The asks of the ninth folder, opened once: each one's numbers, its head and its class.
-/
import Derived.Test.YtdpaffnpedcmpaaGreatOpenCls
import Derived.Test.YtdpaffnpedcmpaaGreatPart7
namespace Go.Proofs.YtdpaffnpedcmpaaGreat
open Go.ChangeShapes Go.WideShapes Go.ChangeAt Go.RowKit

section
variable {H : Type} {enc : TypeId × Value → H} {P : Program} {w : World} {base : Nat} {spare : Nat → Bool} {held : Bool}

/-- A list of structs, each field's cells. -/
theorem open_wide {t e : TypeId} {fs : Array Field} {nf : Nat} {fuel len cap : Nat} {ao : Option Addr} {x : DataW H × List MemPlace} (ht : P.underlying t = some (.slice e)) (he : P.underlying e = some (.struct fs))
    (ce : P.cellsOf e = nf) (hpos : 0 < nf)
    (h : DataW.trod enc P w base spare held fuel t [.slice ao len cap] = some x) :
    len ≤ 9223372036854775807 ∧ (0 < len → ∃ b off, ao = some ⟨b, off, none⟩ ∧ b < w.heap.size ∧ ∀ i, i < len → ∃ cs : List Value, cs.length = nf ∧ (∀ k, k < nf → w.cell? ⟨b, off + (i * nf + k), none⟩ = cs[k]?) ∧
      ∀ (k : Nat) (f : Field), fs[k]? = some f → ∃ n y, DataW.trod enc P w base spare held n f.type ((cs.drop f.offset).take (P.cellsOf f.type)) = some y) := by
  rcases Go.Deep.open_slice ht h with ⟨h0, _⟩ | ⟨a, len', cap', m, n, D, Pl, hcs, hb, hl, hm, hmm, _, hx⟩
  · simp at h0
    obtain ⟨rfl, rfl, rfl⟩ := h0
    exact ⟨by omega, fun h => by omega⟩
  · simp at hcs
    obtain ⟨rfl, rfl, rfl⟩ := hcs
    unfold maxLen at hm
    refine ⟨by omega, fun h0 => ?_⟩
    have hlm : len ≤ m := by rw [hmm]; split <;> omega
    have each : ∀ i, i < len → ∃ cs : List Value, cs.length = nf ∧ (∀ k, k < nf → w.cell? (a.add (i * nf + k)) = cs[k]?) ∧ ∀ (k : Nat) (f : Field), fs[k]? = some f → ∃ n y, DataW.trod enc P w base spare held n f.type ((cs.drop f.offset).take (P.cellsOf f.type)) = some y := by
      intro i hi
      obtain ⟨cs', h1, h2⟩ := hx i (by omega)
      rw [ce] at h1
      obtain ⟨_, hlen, hcell⟩ := World.cells?_some h1
      obtain ⟨xs, q, _, _, _, hxl, hfs⟩ := DataW.trod_struct he h2
      refine ⟨cs', hlen, fun k hk => ?_, fun k f hk => ?_⟩
      · have e := hcell k hk
        rw [Go.Deep.add_add] at e
        exact e
      · have hkn : k < fs.size := (Array.getElem?_eq_some_iff.1 hk).1
        have g := hfs k _ hk
        have hxk : xs[k]? = some xs[k] := by simp [hxl, hkn]
        rw [hxk] at g
        exact ⟨_, _, g⟩
    obtain ⟨b, off, spot⟩ := a
    have hz : w.cell? (Addr.add ⟨b, off, spot⟩ 0) ≠ none := by
      obtain ⟨cs, hl, hc, _⟩ := each 0 h0
      have := hc 0 hpos
      simp only [Nat.zero_mul, Nat.zero_add] at this
      rw [this]
      intro e
      rw [List.getElem?_eq_none_iff] at e
      omega
    obtain ⟨v, hv⟩ := Option.ne_none_iff_exists'.1 hz
    have hspot : spot = none := by simpa [Addr.add] using World.cell?_spot hv
    subst hspot
    refine ⟨b, off, rfl, ?_, fun i hi => ?_⟩
    · rw [Go.WideShapes.add_plain] at hv; exact lt_of_cell' hv
    · obtain ⟨cs, hl, hc, hf⟩ := each i hi
      exact ⟨cs, hl, fun k hk => by have := hc k hk; rwa [Go.WideShapes.add_plain] at this, hf⟩

theorem trod_fields {t : TypeId} {fs : Array Field} {fuel : Nat} {cs : List Value} {x : DataW H × List MemPlace} (he : P.underlying t = some (.struct fs)) (h : DataW.trod enc P w base spare held fuel t cs = some x) :
    ∀ (k : Nat) (f : Field), fs[k]? = some f → ∃ n y, DataW.trod enc P w base spare held n f.type ((cs.drop f.offset).take (P.cellsOf f.type)) = some y := by
  intro k f hk
  obtain ⟨xs, q, _, _, _, hxl, hfs⟩ := DataW.trod_struct he h
  have hkn : k < fs.size := (Array.getElem?_eq_some_iff.1 hk).1
  have g := hfs k _ hk
  have hxk : xs[k]? = some xs[k] := by simp [hxl, hkn]
  rw [hxk] at g
  exact ⟨_, _, g⟩

/-- All asks, whatever is met of them. -/
structure Ask9At (w : World) (ao : Option Addr) (n : Nat) (A : Nat → AV) : Prop where
  cells : 0 < n → ∃ b off, ao = some ⟨b, off, none⟩ ∧ b < w.heap.size ∧ ∀ i t, i < n → t < 10 → w.cell? ⟨b, off + (i * 10 + t), none⟩ = (A i).cells[t]?
  ok : ∀ i, i < n → (A i).ok w ∧ (A i).cL.length ≤ 9223372036854775807

theorem take_drop_one (cs : List Value) (k : Nat) (v : Value) (h : cs[k]? = some v) : (cs.drop k).take 1 = [v] := by
  have hk : k < cs.length := by
    rcases Nat.lt_or_ge k cs.length with h' | h'
    · exact h'
    · rw [List.getElem?_eq_none h'] at h; cases h
  rw [List.drop_eq_getElem_cons hk]
  rw [List.getElem?_eq_getElem hk] at h
  simp at h
  simp [h]

set_option maxHeartbeats 1600000 in
theorem open_asks9 {t e tH tC tb ts ti : TypeId} {f0 f1 f2 f3 f4 f5 : Field} {g0 g1 g2 g3 c0 c1 : Field} {fuel len cap : Nat} {ao : Option Addr} {x : DataW H × List MemPlace} (ht : P.underlying t = some (.slice e)) (he : P.underlying e = some (.struct #[f0, f1, f2, f3, f4, f5]))
    (hH : P.underlying tH = some (.struct #[g0, g1, g2, g3])) (hC : P.underlying tC = some (.struct #[c0, c1]))
    (ce : P.cellsOf e = 10) (cH : P.cellsOf tH = 4) (cC : P.cellsOf tC = 2) (cb : P.cellsOf tb = 1) (cs1 : P.cellsOf ts = 1) (ci : P.cellsOf ti = 1)
    (ho : f0.offset = 0 ∧ f1.offset = 1 ∧ f2.offset = 5 ∧ f3.offset = 7 ∧ f4.offset = 8 ∧ f5.offset = 9) (hty : f0.type = ti ∧ f1.type = tH ∧ f2.type = tC ∧ f3.type = ti ∧ f4.type = ti ∧ f5.type = ti)
    (hoH : g0.offset = 0 ∧ g1.offset = 1 ∧ g2.offset = 2 ∧ g3.offset = 3) (htH : g0.type = ti ∧ g1.type = ti ∧ g2.type = ti ∧ g3.type = tb)
    (hoC : c0.offset = 0 ∧ c1.offset = 1) (htC : c0.type = ti ∧ c1.type = ts)
    (hb : P.underlying tb = some .bool) (hs : P.underlying ts = some (.slice ti)) (hi : P.underlying ti = some (.int .i64))
    (h : DataW.trod enc P w base spare held fuel t [.slice ao len cap] = some x) :
    len ≤ 9223372036854775807 ∧ ∃ A, Ask9At w ao len A := by
  obtain ⟨o0, o1, o2, o3, o4, o5⟩ := ho
  obtain ⟨t0, t1, t2, t3, t4, t5⟩ := hty
  obtain ⟨oh0, oh1, oh2, oh3⟩ := hoH
  obtain ⟨th0, th1, th2, th3⟩ := htH
  obtain ⟨oc0, oc1⟩ := hoC
  obtain ⟨tc0, tc1⟩ := htC
  obtain ⟨h1, h2⟩ := open_wide (nf := 10) ht he ce (by omega) h
  refine ⟨h1, ?_⟩
  by_cases h0 : 0 < len
  · obtain ⟨b, off, rfl, hbl, hx⟩ := h2 h0
    have each : ∀ i, ∃ a : AV, i < len → (∀ k, k < 10 → w.cell? ⟨b, off + (i * 10 + k), none⟩ = a.cells[k]?) ∧ a.ok w ∧ a.cL.length ≤ 9223372036854775807 := by
      intro i
      by_cases hil : i < len
      · obtain ⟨cs, hl, hc, hf⟩ := hx i hil
        obtain ⟨v0, v1, v2, v3, v4, v5, v6, v7, v8, v9, rfl⟩ : ∃ v0 v1 v2 v3 v4 v5 v6 v7 v8 v9, cs = [v0, v1, v2, v3, v4, v5, v6, v7, v8, v9] := by
          rcases cs with _ | ⟨v0, _ | ⟨v1, _ | ⟨v2, _ | ⟨v3, _ | ⟨v4, _ | ⟨v5, _ | ⟨v6, _ | ⟨v7, _ | ⟨v8, _ | ⟨v9, _ | ⟨v10, r⟩⟩⟩⟩⟩⟩⟩⟩⟩⟩⟩ <;> first | exact ⟨_, _, _, _, _, _, _, _, _, _, rfl⟩ | (simp at hl)
        obtain ⟨n0, y0, r0⟩ := hf 0 f0 rfl
        obtain ⟨n1, y1, r1⟩ := hf 1 f1 rfl
        obtain ⟨n2, y2, r2⟩ := hf 2 f2 rfl
        obtain ⟨n3, y3, r3⟩ := hf 3 f3 rfl
        obtain ⟨n4, y4, r4⟩ := hf 4 f4 rfl
        obtain ⟨n5, y5, r5⟩ := hf 5 f5 rfl
        rw [o0, t0, ci] at r0
        rw [o1, t1, cH] at r1
        rw [o2, t2, cC] at r2
        rw [o3, t3, ci] at r3
        rw [o4, t4, ci] at r4
        rw [o5, t5, ci] at r5
        simp only [List.drop_zero, List.drop_succ_cons, List.take_succ_cons, List.take_zero] at r0 r1 r2 r3 r4 r5
        have s1 := trod_fields hH r1
        have s2 := trod_fields hC r2
        obtain ⟨_, _, q0⟩ := s1 0 g0 rfl
        obtain ⟨_, _, q1⟩ := s1 1 g1 rfl
        obtain ⟨_, _, q2⟩ := s1 2 g2 rfl
        obtain ⟨_, _, q3⟩ := s1 3 g3 rfl
        obtain ⟨_, _, p0⟩ := s2 0 c0 rfl
        obtain ⟨_, _, p1⟩ := s2 1 c1 rfl
        rw [oh0, th0, ci] at q0
        rw [oh1, th1, ci] at q1
        rw [oh2, th2, ci] at q2
        rw [oh3, th3, cb] at q3
        rw [oc0, tc0, ci] at p0
        rw [oc1, tc1, cs1] at p1
        simp only [List.drop_zero, List.drop_succ_cons, List.take_succ_cons, List.take_zero] at q0 q1 q2 q3 p0 p1
        obtain ⟨z0, e0, _, w0⟩ := DataW.trod_int hi r0
        obtain ⟨z1, e1, _, w1⟩ := DataW.trod_int hi q0
        obtain ⟨z2, e2, _, w2⟩ := DataW.trod_int hi q1
        obtain ⟨z3, e3, _, w3⟩ := DataW.trod_int hi q2
        obtain ⟨z4, e4, _⟩ := DataW.trod_bool hb q3
        obtain ⟨z5, e5, _, w5⟩ := DataW.trod_int hi p0
        obtain ⟨ca, cc, L, e6, hL, hI, hcp⟩ := open_ints_cap hs hi ci p1
        obtain ⟨z7, e7, _, w7⟩ := DataW.trod_int hi r3
        obtain ⟨z8, e8, _, w8⟩ := DataW.trod_int hi r4
        obtain ⟨z9, e9, _, w9⟩ := DataW.trod_int hi r5
        have e0' : v0 = .int .i64 z0 := by simpa using e0
        have e1' : v1 = .int .i64 z1 := by simpa using e1
        have e2' : v2 = .int .i64 z2 := by simpa using e2
        have e3' : v3 = .int .i64 z3 := by simpa using e3
        have e4' : v4 = .bool z4 := by simpa using e4
        have e5' : v5 = .int .i64 z5 := by simpa using e5
        have e7' : v7 = .int .i64 z7 := by simpa using e7
        have e8' : v8 = .int .i64 z8 := by simpa using e8
        have e9' : v9 = .int .i64 z9 := by simpa using e9
        have b0 := bounds_i64 w0
        have b1 := bounds_i64 w1
        have b2 := bounds_i64 w2
        have b3 := bounds_i64 w3
        have b5 := bounds_i64 w5
        have b7 := bounds_i64 w7
        have b8 := bounds_i64 w8
        have b9 := bounds_i64 w9
        subst e0' e1' e2' e3' e4' e5' e6 e7' e8' e9'
        exact ⟨⟨z0, z1, z2, z3, z4, z5, ca, cc, L, z7, z8, z9⟩, fun _ => ⟨fun k hk => hc k hk, ⟨by unfold inI; simp only; omega, by unfold inI; simp only; omega, by unfold inI; simp only; omega, by unfold inI; simp only; omega, by unfold inI; simp only; omega, by unfold inI; simp only; omega, by unfold inI; simp only; omega, by unfold inI; simp only; omega, hcp, hI⟩, hL⟩⟩
      · exact ⟨⟨0, 0, 0, 0, false, 0, none, 0, [], 0, 0, 0⟩, fun h => absurd h hil⟩
    exact ⟨fun i => Classical.choose (each i), fun _ => ⟨b, off, rfl, hbl, fun i k hi hk => (Classical.choose_spec (each i) hi).1 k hk⟩, fun i hi => (Classical.choose_spec (each i) hi).2⟩
  · exact ⟨fun _ => ⟨0, 0, 0, 0, false, 0, none, 0, [], 0, 0, 0⟩, fun h => absurd h h0, fun i hi => by omega⟩
end

end Go.Proofs.YtdpaffnpedcmpaaGreat
