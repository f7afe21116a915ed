/-
  A row of one's own that append made: its first cells, and the same when one of them is set. It speaks of no program.
-/
import Derived.Test.YtjlfjbdkffppeaaOwn
import Derived.Test.YtjlfjbdkffppeaaTwin
namespace Go.Proofs.Ytjlfjbdkffppeaa
open Go.RowKit

/-- Block g begins with these integers. -/
def PRow (w : World) (t : TypeId) (g : Nat) (L : List Int) : Prop := ∃ cur : Array Value, w.heap[g]? = some (.cells cur t (0, 0)) ∧ ∀ i : Nat, i < L.length → cur[i]? = some (.int .i64 (L[i]?.getD 0))
theorem PRow.lt {w : World} {t : TypeId} {g : Nat} {L : List Int} (h : PRow w t g L) : g < w.heap.size := by obtain ⟨cur, h, _⟩ := h; exact lt_of_block h
theorem PRow.keep {S : List Nat} {w w' : World} {t : TypeId} {g : Nat} {L : List Int} (h : PRow w t g L) (k : Keep S w w') (hS : g ∉ S) : PRow w' t g L := by obtain ⟨cur, h1, h2⟩ := h; exact ⟨cur, k.blk h1 hS, h2⟩
theorem PRow.cell {w : World} {t : TypeId} {g : Nat} {L : List Int} (h : PRow w t g L) {i : Nat} (hi : i < L.length) : w.cell? ⟨g, i, none⟩ = some (.int .i64 (L[i]?.getD 0)) := by
  obtain ⟨cur, h1, h2⟩ := h
  simp [World.cell?, h1, h2 i hi]
theorem PRow.free {w : World} {t : TypeId} {g : Nat} {L : List Int} (h : PRow w t g L) (i : Nat) : w.frozen? ⟨g, i, none⟩ = false := by
  obtain ⟨cur, h1, _⟩ := h
  simp [World.frozen?, h1]
theorem PRow.put {w : World} {t : TypeId} {g : Nat} {L : List Int} (h : PRow w t g L) (i : Nat) (x : Int) : PRow (w.setCell ⟨g, i, none⟩ (.int .i64 x)) t g (L.set i x) := by
  obtain ⟨cur, h1, h2⟩ := h
  refine ⟨_, heap_setCell_same w g i cur t (.int .i64 x) h1, fun j hj => ?_⟩
  rw [List.length_set] at hj
  have h3 := h2 j hj
  have hc : j < cur.size := by
    rcases Nat.lt_or_ge j cur.size with e | e
    · exact e
    · rw [Array.getElem?_eq_none e] at h3; cases h3
  by_cases e : i = j
  · subst e; rw [set_get_same _ _ _ hj, Array.getElem?_setIfInBounds_self_of_lt hc]
  · rw [set_get_other _ _ _ _ e, Array.getElem?_setIfInBounds_ne e]; exact h3
theorem own_prow {w : World} {base : Nat} {e : TypeId} {v : Value} {n : Nat} {L : List Int} (h : w.ownsRow base e 1 v n (ints L)) (h0 : 0 < n) :
    ∃ g cap, v = .slice (some ⟨g, 0, none⟩) n cap ∧ L.length = n ∧ base ≤ g ∧ PRow w e g L := by
  have hn : n = L.length := by have := h.1; rw [ints_length, Nat.mul_one] at this; exact this.symm
  rcases h.2 with ⟨_, h1⟩ | ⟨g, cap, cur, h1, hb, hg, hc1, _, hsz, hcur⟩
  · omega
  · refine ⟨g, cap, h1, hn.symm, hb, cur, hg, fun i hi => ?_⟩
    rw [Nat.mul_one] at hcur
    have h3 : cur.toList[i]? = some (.int .i64 (L[i]?.getD 0)) := by
      have h2 := ints_get L i hi
      rw [← hcur, List.getElem?_take, if_pos (by omega)] at h2
      exact h2
    simpa using h3
/-- What an append turns. -/
theorem Keep.ofGrown {w w' : World} {row : Option Nat} (h : w.grownBy w' row) : Keep row.toList w w' :=
  ⟨h.os, h.tape, h.output, h.size, fun k hk hS => h.block k hk (fun e => hS (by rw [← e]; simp))⟩
theorem Keep.grownS {S : List Nat} {w1 w w' : World} {row : Option Nat} (h : Keep S w1 w) (hg : w.grownBy w' row) (hrow : ∀ k, row = some k → w1.heap.size ≤ k) : Keep S w1 w' :=
  ⟨hg.os.trans h.os, hg.tape.trans h.tape, hg.output.trans h.output, Nat.le_trans h.size hg.size, fun k hk hS =>
    (hg.block k (Nat.lt_of_lt_of_le hk h.size) (fun e => by have := hrow k e.symm; omega)).trans (h.block k hk hS)⟩

end Go.Proofs.Ytjlfjbdkffppeaa
