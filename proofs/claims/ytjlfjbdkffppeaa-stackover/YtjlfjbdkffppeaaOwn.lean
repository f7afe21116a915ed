/-
  A slice that the call itself made by append, read as a slice of integers; frames over what append leaves.
-/
import Derived.Test.YtjlfjbdkffppeaaBools
import Derived.Laws.AppendOwnNone
import Derived.ProofKit
import Derived.OpenShut
namespace Go.Proofs.Ytjlfjbdkffppeaa
open Go.RowKit

theorem Keep.grown {w1 w w' : World} {row : Option Nat} (h : Keep [] w1 w) (hg : w.grownBy w' row) (hrow : ∀ k, row = some k → w1.heap.size ≤ k) : Keep [] w1 w' :=
  ⟨hg.os.trans h.os, hg.tape.trans h.tape, hg.output.trans h.output, Nat.le_trans h.size hg.size, fun k hk hS =>
    (hg.block k (Nat.lt_of_lt_of_le hk h.size) (fun e => by have := hrow k e.symm; omega)).trans (h.block k hk hS)⟩
theorem own_block {w : World} {base : Nat} {e : TypeId} {size : Nat} {v : Value} {n : Nat} {xs : List Value} (h : w.ownsRow base e size v n xs) : ∀ k, v.ownBlock = some k → base ≤ k := by
  intro k hk
  rcases h.2 with ⟨rfl, _⟩ | ⟨g, cap, cur, rfl, hb, _⟩
  · cases hk
  · cases hk; exact hb
/-- What it is good for: nil, or the head of a row of its own. -/
theorem own_ints {w : World} {base : Nat} {e : TypeId} {v : Value} {n : Nat} {L : List Int} (h : w.ownsRow base e 1 v n (ints L)) (hl : ∀ i : Nat, -9223372036854775808 ≤ L[i]?.getD 0 ∧ L[i]?.getD 0 ≤ 9223372036854775807) :
    (v = .slice none 0 0 ∧ L = [] ∧ n = 0) ∨ ∃ g cap, v = .slice (some ⟨g, 0, none⟩) L.length cap ∧ n = L.length ∧ base ≤ g ∧ g < w.heap.size ∧ IntsAt w (some ⟨g, 0, none⟩) L := by
  have hn : n = L.length := by have := h.1; rw [ints_length, Nat.mul_one] at this; exact this.symm
  subst hn
  rcases h.2 with ⟨rfl, h0⟩ | ⟨g, cap, cur, rfl, hb, hg, hc1, _, hsz, hcur⟩
  · exact .inl ⟨rfl, List.length_eq_zero_iff.1 h0, h0⟩
  · refine .inr ⟨g, cap, rfl, rfl, hb, lt_of_block hg, fun _ => ⟨g, 0, rfl, lt_of_block hg, fun i hi => ?_⟩, fun i => (hl i).1, fun i => (hl i).2⟩
    rw [Nat.mul_one] at hcur
    have h1 : cur.toList[i]? = some (.int .i64 (L[i]?.getD 0)) := by
      have h2 := ints_get L i hi
      rw [← hcur, List.getElem?_take, if_pos hi] at h2
      exact h2
    rw [Nat.zero_add]
    have h3 : cur[i]? = some (.int .i64 (L[i]?.getD 0)) := by simpa using h1
    simp [World.cell?, hg, h3]
theorem own_snoc {w : World} {base : Nat} {e : TypeId} {v : Value} {n : Nat} {L : List Int} {x : Int} (h : w.ownsRow base e 1 v n (ints (L ++ [x]))) (hl : ∀ i : Nat, -9223372036854775808 ≤ (L ++ [x])[i]?.getD 0 ∧ (L ++ [x])[i]?.getD 0 ≤ 9223372036854775807) :
    ∃ g cap, v = .slice (some ⟨g, 0, none⟩) (L.length + 1) cap ∧ base ≤ g ∧ g < w.heap.size ∧ IntsAt w (some ⟨g, 0, none⟩) (L ++ [x]) := by
  rcases own_ints h hl with ⟨_, h1, _⟩ | ⟨g, cap, h1, _, h2, h3, h4⟩
  · simp at h1
  · exact ⟨g, cap, by rw [h1]; simp, h2, h3, h4⟩
theorem IntsAt.nil (w : World) (ao : Option Addr) : IntsAt w ao [] := ⟨fun h => by simp at h, fun i => by simp, fun i => by simp⟩
theorem ints_app (L M : List Int) : ints L ++ ints M = ints (L ++ M) := by simp [ints]
theorem ints_one (L : List Int) (u : Value) (h : u ∈ ints L) : u.oneCell' = true := by
  simp only [ints, List.mem_map] at h
  obtain ⟨x, _, rfl⟩ := h
  rfl
theorem one_cell (w : World) (t : TypeId) (x : Int) : ∀ j u, (ints [x])[j]? = some u → (w.alloc (.cells #[.int .i64 x] t)).cell? ((⟨w.heap.size, 0, none⟩ : Addr).add j) = some u := by
  intro j u h
  rcases j with _ | j
  · have hu : u = .int .i64 x := by simpa [ints] using h.symm
    subst hu
    simp [Addr.add]
  · simp [ints] at h
theorem grown_refl (w : World) (row : Option Nat) : w.grownBy w row := ⟨rfl, rfl, rfl, Nat.le_refl _, fun _ _ _ => rfl⟩
/-- The builtin append of integers onto a row of one's own, whatever is appended: nil, empty, or not. -/
theorem append_ints {P : Program} {w : World} {ops : Array Oper} {rest : List Oper} {o : Oper} {a : Act} {Q : Exit → Act → World → Prop} (hgd : o.guard = none) (s x : Operand) (t : TypeId)
    (ho : o.op = .call { callee := .builtin .append, args := #[s, x], argTypes := #[t, t] })
    (base : Nat) (e : TypeId) (i : TypeInfo) (ht : P.underlying t = some (.slice e)) (hi : P.info? e = some i ∧ i.zero = some (.int .i64 0) ∧ i.size = 1 ∧ i.bytes = 8)
    (v : Value) (n : Nat) (L M : List Int) (hs : a.eval s = v) (hown : w.ownsRow base e 1 v n (ints L)) (xa : Option Addr) (m c : Nat) (hm : M.length = m)
    (hx : a.eval x = .slice xa m c) (hM : IntsAt w xa M) (hc : xa = none → c = 0) (hl : n + m ≤ 1000000) (hbase : base ≤ w.heap.size)
    (h : ∀ v' w', w'.ownsRow base e 1 v' (n + m) (ints (L ++ M)) → w.grownBy w' v.ownBlock → wpList P ops Q rest (a.put o.dst v') w') : wpList P ops Q (o :: rest) a w := by
  obtain ⟨h1, h2, h3, h4⟩ := hi
  cases xa with
  | none =>
    have h0 : M = [] := by
      rcases Nat.eq_zero_or_pos M.length with h0 | h0
      · exact List.length_eq_zero_iff.1 h0
      · obtain ⟨_, _, e, _⟩ := hM.cells h0; cases e
    subst h0
    subst hm
    obtain rfl := hc rfl
    refine wpList_append_own_none hgd s x t ho base e i 1 ht h1 v n _ hs hown hx (h v w ?_ (grown_refl _ _))
    simpa using hown
  | some ad =>
    refine wpList_append_own _ hgd s x t ho base e i (.int .i64 0) 1 8 ht h1 h2 h3 h4 rfl (by decide) v n _ hs hown ad m c (ints M) hx (by rw [ints_length]; omega) ?_ (ints_one _) (by unfold maxLen; omega) (by omega) hbase ?_
    · intro j u hu
      have hj : j < M.length := by
        rcases Nat.lt_or_ge j M.length with hj | hj
        · exact hj
        · rw [List.getElem?_eq_none (by rw [ints_length]; exact hj)] at hu; cases hu
      obtain ⟨b, off, e1, _, hcell⟩ := hM.cells (by omega)
      cases e1
      rw [ints_get M j hj] at hu
      rw [Go.WideShapes.add_plain, hcell j hj]; exact hu
    · intro v' w' hown' hg _
      rw [ints_app] at hown'
      exact h v' w' hown' hg
theorem app_bd {L : List Int} {x : Int} (hb : ∀ i : Nat, -9223372036854775808 ≤ L[i]?.getD 0 ∧ L[i]?.getD 0 ≤ 9223372036854775807) (h1 : -9223372036854775808 ≤ x) (h2 : x ≤ 9223372036854775807) :
    ∀ i : Nat, -9223372036854775808 ≤ (L ++ [x])[i]?.getD 0 ∧ (L ++ [x])[i]?.getD 0 ≤ 9223372036854775807 := by
  intro i
  rcases Nat.lt_trichotomy i L.length with h | h | h
  · rw [List.getElem?_append_left h]; exact hb i
  · subst h; simp; omega
  · rw [List.getElem?_eq_none (by simp; omega)]; simp
theorem app_unfit {n : Nat} (L : List Int) (x : Int) (h : ¬ (0 ≤ x ∧ x < (n : Int))) : fitsB n (L ++ [x]) = false :=
  fitsB_false n _ L.length (by simp) (by simpa using h)
/-- A list that is empty, and is no nil. -/
theorem own_empty (w : World) (e : TypeId) : (w.alloc (.cells #[] e)).ownsRow w.heap.size e 1 (.slice (some ⟨w.heap.size, 0, none⟩) 0 0) 0 (ints []) :=
  ⟨rfl, .inr ⟨w.heap.size, 0, #[], rfl, Nat.le_refl _, heap_alloc_new w _, Nat.le_refl _, Nat.zero_le _, rfl, rfl⟩⟩
theorem own_base {w : World} {base base' : Nat} {e : TypeId} {size : Nat} {v : Value} {n : Nat} {xs : List Value} (h : w.ownsRow base e size v n xs) (hb : base' ≤ base) : w.ownsRow base' e size v n xs := by
  refine ⟨h.1, ?_⟩
  rcases h.2 with h | ⟨g, cap, cur, h1, h2, h3⟩
  · exact .inl h
  · exact .inr ⟨g, cap, cur, h1, by omega, h3⟩

end Go.Proofs.Ytjlfjbdkffppeaa
