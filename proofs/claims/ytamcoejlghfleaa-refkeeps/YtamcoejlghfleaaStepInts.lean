/-
  append of integers at a step of a region that draws, onto a row of one's own; pieces of a list. It speaks of no program.
-/
import Derived.Test.YtamcoejlghfleaaRows
import Derived.Test.YtamcoejlghfleaaPart4
import Derived.Test.YtamcoejlghfleaaPart2
import Derived.Deep.RegionLaw
namespace Go.Proofs.Ytamcoejlghfleaa
open Go.RowKit

theorem own_cap {w : World} {base : Nat} {e : TypeId} {b off q c : Nat} {xs : List Value} {v : Value} (h : w.ownsRow base e 1 v q xs) (hv : v = .slice (some ⟨b, off, none⟩) q c) : q ≤ c := by
  rcases h.2 with ⟨h1, _⟩ | ⟨g, cap, cur, h1, _, _, h2, _⟩
  · rw [hv] at h1; cases h1
  · rw [hv] at h1; cases h1; exact h2
/-- The builtin append of integers at a step of a region that draws, whatever is appended: nil, empty, or not. -/
theorem step_append_ints {P : Program} {w : World} {ops : Array Oper} {o : Oper} {a : Act} {K : Act → World → Prop} {Q : Exit → Act → World → Prop} {E : Prop} (hgd : o.guard = none) (s x : Operand) (t : TypeId)
    (ho : o.op = .call { callee := .builtin .append, args := #[s, x], argTypes := #[t, t] })
    (base : Nat) (e : TypeId) (i : TypeInfo) (ht : P.underlying t = some (.slice e)) (hi : P.info? e = some i ∧ i.zero = some (.int .i64 0) ∧ i.size = 1 ∧ i.bytes = 8)
    (v : Value) (n : Nat) (L M : List Int) (hs : a.eval s = v) (hown : w.ownsRow base e 1 v n (ints L)) (xa : Option Addr) (m c : Nat) (hm : M.length = m)
    (hx : a.eval x = .slice xa m c) (hM : IntsAt w xa M) (hc : xa = none → c = 0) (hl : n + m ≤ 1000000) (hbase : base ≤ w.heap.size)
    (h : ∀ v' w', w'.ownsRow base e 1 v' (n + m) (ints (L ++ M)) → w.grownBy w' v.ownBlock → K (a.put o.dst v') w') :
    if Region.wanted o (yielded ops a.tmps) = true then Oper.wp P o a w K Q else E := by
  have hw : Region.wanted o (yielded ops a.tmps) = true := by simp [Region.wanted, hgd]
  rw [if_pos hw]
  obtain ⟨h1, h2, h3, h4⟩ := hi
  cases xa with
  | none =>
    have h0 : M = [] := by
      rcases Nat.eq_zero_or_pos M.length with h0 | h0
      · exact List.length_eq_zero_iff.1 h0
      · obtain ⟨_, _, e, _⟩ := hM.cells h0; cases e
    subst h0
    subst hm
    obtain rfl := hc rfl
    have hrun := run_append_owned_none (P := P) (w := w) base t o.type e i 1 ht h1 v n _ hown
    unfold Oper.wp
    simp [execOp, ho, resolve, invoke, builtin, hs, hx, hrun, Result.andThen]
    exact h v w (by simpa using hown) (grown_refl _ _)
  | some ad =>
    obtain ⟨v', w', hrun, hown', hg, _⟩ := run_append_own (P := P) w base t o.type e i (.int .i64 0) 1 8 ht h1 h2 h3 h4 rfl (by decide) v n _ hown ad m c (ints M) (by rw [ints_length]; omega) (by
      intro j u hu
      have hj : j < M.length := by
        rcases Nat.lt_or_ge j M.length with hj | hj
        · exact hj
        · rw [List.getElem?_eq_none (by rw [ints_length]; exact hj)] at hu; cases hu
      obtain ⟨b, off, e1, _, hcell⟩ := hM.cells (by omega)
      cases e1
      rw [ints_get M j hj] at hu
      rw [Go.WideShapes.add_plain, hcell j hj]; exact hu) (ints_one _) (by unfold maxLen; omega) (by omega) hbase
    unfold Oper.wp
    simp [execOp, ho, resolve, invoke, builtin, hs, hx, hrun, Result.andThen]
    rw [ints_app] at hown'
    exact h v' w' hown' hg

theorem own_emptyB {w : World} {B base : Nat} {e : TypeId} (h : w.heap[B]? = some (.cells #[] e (0, 0))) (hb : base ≤ B) : w.ownsRow base e 1 (.slice (some ⟨B, 0, none⟩) 0 0) 0 (ints []) :=
  ⟨rfl, .inr ⟨B, 0, #[], rfl, hb, h, Nat.le_refl _, Nat.zero_le _, rfl, rfl⟩⟩
theorem IntsAt.oneB {w : World} {B : Nat} {t : TypeId} {x : Int} (h : w.heap[B]? = some (.cells #[.int .i64 x] t (0, 0))) (h1 : -9223372036854775808 ≤ x) (h2 : x ≤ 9223372036854775807) : IntsAt w (some ⟨B, 0, none⟩) [x] := by
  refine ⟨fun _ => ⟨B, 0, rfl, lt_of_block h, fun i hi => ?_⟩, fun i => ?_, fun i => ?_⟩
  · obtain rfl : i = 0 := by simpa using hi
    exact cell_of_one h
  · rcases i with _ | i <;> simp; omega
  · rcases i with _ | i <;> simp; omega

theorem nA (w : World) (o : Obj) : (w.alloc o).drew.heap[w.heap.size]? = some o := heap_alloc_new w o
theorem nB (w : World) (o p : Obj) : ((w.alloc o).alloc p).drew.heap[w.heap.size]? = some o := by
  show ((w.alloc o).alloc p).heap[w.heap.size]? = some o
  rw [Below.heap_alloc _ _ _ (by simp)]; exact heap_alloc_new w o
theorem nC (w : World) (o p : Obj) : ((w.alloc p).alloc o).drew.heap[w.heap.size + 1]? = some o := by
  have := heap_alloc_new (w.alloc p) o
  rw [World.size_alloc] at this
  exact this
theorem IntsAt.grew {w w' : World} {v : Value} {B : Nat} {t : TypeId} {x : Int} (h : w.heap[B]? = some (.cells #[.int .i64 x] t (0, 0))) (hg : w.grownBy w' v.ownBlock) (hne : v.ownBlock ≠ some B) (h1 : -9223372036854775808 ≤ x) (h2 : x ≤ 9223372036854775807) : IntsAt w' (some ⟨B, 0, none⟩) [x] :=
  IntsAt.oneB (by rw [hg.block B (lt_of_block h) (fun e => hne e.symm)]; exact h) h1 h2
theorem IntsAt.take {w : World} {b off : Nat} {L : List Int} (h : IntsAt w (some ⟨b, off, none⟩) L) (k : Nat) : IntsAt w (some ⟨b, off, none⟩) (L.take k) := by
  refine ⟨fun h0 => ?_, fun i => ?_, fun i => ?_⟩
  · rw [List.length_take] at h0
    obtain ⟨b', off', e, hb, hc⟩ := h.cells (by omega)
    cases e
    refine ⟨b, off, rfl, hb, fun i hi => ?_⟩
    rw [List.length_take] at hi
    rw [hc i (by omega), List.getElem?_take, if_pos (by omega)]
  · rw [List.getElem?_take]; split
    · exact h.low i
    · simp
  · rw [List.getElem?_take]; split
    · exact h.high i
    · simp
theorem IntsAt.drop {w : World} {b off : Nat} {L : List Int} (h : IntsAt w (some ⟨b, off, none⟩) L) (k : Nat) : IntsAt w (some ⟨b, off + k, none⟩) (L.drop k) := by
  refine ⟨fun h0 => ?_, fun i => ?_, fun i => ?_⟩
  · rw [List.length_drop] at h0
    obtain ⟨b', off', e, hb, hc⟩ := h.cells (by omega)
    cases e
    refine ⟨b, off + k, rfl, hb, fun i hi => ?_⟩
    rw [List.length_drop] at hi
    rw [List.getElem?_drop, ← hc (k + i) (by omega), Nat.add_assoc]
  · rw [List.getElem?_drop]; exact h.low _
  · rw [List.getElem?_drop]; exact h.high _

end Go.Proofs.Ytamcoejlghfleaa
