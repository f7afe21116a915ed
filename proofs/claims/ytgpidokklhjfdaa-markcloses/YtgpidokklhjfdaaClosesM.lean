/-
  What leads to what in a graph: plain facts.
-/
import Derived.Test.YtgpidokklhjfdaaMarks17
import Derived.Test.YtgpidokklhjfdaaIn
namespace Go.Proofs.Ytgpidokklhjfdaa
open Go.RowKit

section
variable {kd : List PK} {ws : List Int} {n : Nat} {A : Nat → Nat} {kk cc ll : Nat → Int}
theorem field_in {ds : List (Int × List Int)} {b m t : Nat} {k c l : Int} {f : Bool} (hf : Fine ws kd ds) (h : At kd ws (b : Int) b m k c l f) (ht : (t : Int) < l) : ∃ N, FieldT kd ws (b : Int) (t : Int) N 0 := by
  have h1 := at_room hf h
  obtain ⟨_, h2, h3, h4, h5, h6⟩ := h.facts hf.wf
  have h7 := hf.len
  exact ⟨_, .yes (b + 1 + t) (.yes b m t k c l f h rfl ht h1) (by omega)⟩
/-- Each field that Refs tells is there. -/
theorem OT.refs_in (h : OT kd ws dsG n A kk cc ll) {R : List Int} {a : Nat} (hR : RefsT kd ws dsG (a : Int) R) (k : Nat) (hk : k < R.length) : ∃ N, FieldT kd ws (a : Int) (R[k]?.getD 0) N 0 := by
  cases hR with
  | none h => simp at hk
  | plain b m i c l f _ hat e1 e2 =>
    obtain rfl : a = b := by have := hat.1; omega
    rcases i with _ | i
    · simp [dsG] at e2
      obtain ⟨rfl, rfl⟩ := e2
      rcases k with _ | _ | k
      · exact field_in (t := 0) h.fine hat (by omega)
      · exact field_in (t := 2) h.fine hat (by omega)
      · simp at hk; omega
    · simp [dsG] at e2
  | refs b m c l f hat =>
    obtain rfl : a = b := by have := hat.1; omega
    rw [upL_length] at hk
    rw [upL_get l k hk]
    exact field_in h.fine hat (by omega)
  | data b m c l f hat => simp at hk
  | ref b m c l f hat =>
    obtain rfl : a = b := by have := hat.1; omega
    have hm := hat.2.2.1
    have hl : l = 5 := by unfold mayH at hm; simp at hm; omega
    rcases k with _ | k
    · exact field_in (t := 2) h.fine hat (by omega)
    · simp at hk
theorem refs_few {R : List Int} {x : Int} (hR : RefsT kd ws dsG x R) : R.length ≤ 1023 := by
  cases hR with
  | none h => simp
  | plain b m i c l f _ hat e1 e2 =>
    rcases i with _ | i
    · simp [dsG] at e2
      obtain ⟨_, rfl⟩ := e2
      simp
    · simp [dsG] at e2
  | refs b m c l f hat => rw [upL_length]; have := hat.2.2.bd; omega
  | data b m c l f hat => simp
  | ref b m c l f hat => simp
theorem mem_get {R : List Int} {k : Nat} (h : k < R.length) : R[k]?.getD 0 ∈ R := by rw [List.getElem?_eq_getElem h]; exact List.getElem_mem h
/-- One of the others leads there, by its k-th address. -/
def Wit (kd : List PK) (ws : List Int) (ys : List Bool) (A : Nat → Nat) (i j k : Nat) : Prop := j ≠ i ∧ onM ys (A j) = true ∧ ∃ R E, RefsT kd ws dsG (A j) R ∧ k < R.length ∧ FieldT kd ws (A j) (R[k]?.getD 0) (A i) E
theorem OT.wit (h : OT kd ws dsG n A kk cc ll) {M : List Int} {ys : List Bool} (hT : MarkT kd ws dsG (offs ws.length) M ys) (i : Nat) (hon : onM ys (A i) = true) : (A i : Int) ∈ M ∨ ∃ j k, j < n ∧ Wit kd ws ys A i j k := by
  rcases (hT.iff _).1 hon with e | e
  · rw [onM_offs] at e; cases e
  · rcases e.src with e | ⟨y, h1, h2, h3⟩
    · exact .inl e
    · obtain ⟨j, hj, rfl⟩ := h.all y h2.at'
      obtain ⟨R, x, E, g1, g2, g3⟩ := h3
      obtain ⟨k, hk, rfl⟩ := List.getElem_of_mem g2
      refine .inr ⟨j, k, hj, fun e => h1 (by rw [e]), (hT.iff _).2 (.inr h2), R, E, g1, hk, ?_⟩
      rw [List.getElem?_eq_getElem hk]; exact g3
theorem Wit.here {ys : List Bool} {i j k : Nat} {R : List Int} {N E : Int} (h : Wit kd ws ys A i j k) (hR : RefsT kd ws dsG (A j) R) (hF : FieldT kd ws (A j) (R[k]?.getD 0) N E) : j ≠ i ∧ onM ys (A j) = true ∧ k < R.length ∧ N = (A i : Int) := by
  obtain ⟨h1, h2, R', E', g1, g2, g3⟩ := h
  obtain rfl := refsT_one hR g1
  exact ⟨h1, h2, g2, (fieldT_one hF g3).1⟩
theorem Wit.row {ys : List Bool} {i j k : Nat} {R : List Int} (h : Wit kd ws ys A i j k) (hR : RefsT kd ws dsG (A j) R) : k < R.length := by
  obtain ⟨h1, h2, R', E', g1, g2, g3⟩ := h
  obtain rfl := refsT_one hR g1
  exact g2
theorem wit_next {ys : List Bool} {i j k : Nat} {cb cb' : Bool} {P : Prop} (h : cb = true ∨ (∃ k0, k ≤ k0 ∧ Wit kd ws ys A i j k0) ∨ P) (hc : cb = true → cb' = true) (hk : Wit kd ws ys A i j k → cb' = true) : cb' = true ∨ (∃ k0, k + 1 ≤ k0 ∧ Wit kd ws ys A i j k0) ∨ P := by
  rcases h with h | ⟨k0, h1, h2⟩ | h
  · exact .inl (hc h)
  · by_cases e : k = k0
    · subst e; exact .inl (hk h2)
    · exact .inr (.inl ⟨k0, by omega, h2⟩)
  · exact .inr (.inr h)
/-- What stands in the list of all is an object. -/
theorem OT.inL_at (h : OT kd ws dsG n A kk cc ll) {x : Int} (e : inL (aL A n) x = true) : isAt kd x = true := by
  unfold inL at e
  simp only [decide_eq_true_eq] at e
  obtain ⟨j, hj, rfl⟩ := List.getElem_of_mem e
  rw [aL_length] at hj
  have := aL_get A n j hj
  rw [List.getElem?_eq_getElem (by rw [aL_length]; exact hj)] at this
  simp at this
  rw [this]
  exact h.atI j hj
end

end Go.Proofs.Ytgpidokklhjfdaa
