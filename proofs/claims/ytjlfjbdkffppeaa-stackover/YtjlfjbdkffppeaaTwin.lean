/-
  Two lists of integers that a call grows by turns, each in memory of its own.
-/
import Derived.Test.YtjlfjbdkffppeaaOwn
import Derived.Deep.AppendLies
namespace Go.Proofs.Ytjlfjbdkffppeaa
open Go.RowKit

theorem snoc_old (L : List Int) (x : Int) (t : Nat) (h : t < L.length) : (L ++ [x])[t]?.getD 0 = L[t]?.getD 0 := by rw [List.getElem?_append_left h]
theorem snoc_new (L : List Int) (x : Int) (t : Nat) (h : t = L.length) : (L ++ [x])[t]?.getD 0 = x := by subst h; simp
theorem own_keep {S : List Nat} {w w' : World} {base : Nat} {e : TypeId} {size : Nat} {v : Value} {n : Nat} {xs : List Value} (h : w.ownsRow base e size v n xs) (k : Keep S w w') (hS : ∀ x, x ∈ S → x < base) : w'.ownsRow base e size v n xs := by
  refine ⟨h.1, ?_⟩
  rcases h.2 with h | ⟨g, cap, cur, h1, h2, h3, h4⟩
  · exact .inl h
  · exact .inr ⟨g, cap, cur, h1, h2, k.blk h3 (fun e => by have := hS g e; omega), h4⟩
/-- Two slices lie in two blocks. -/
def Apart (la ls : Option Addr) : Prop := ∀ x y, la = some x → ls = some y → x.block ≠ y.block
theorem Apart.kept {la ls : Option Addr} (h : Apart la ls) (q c q' c' : Nat) : (Value.slice ls q c).ownBlock = none ∨ (Value.slice ls q c).ownBlock ≠ (Value.slice la q' c').ownBlock := by
  cases ls with
  | none => exact .inl rfl
  | some y =>
    cases la with
    | none => exact .inr (by simp [Value.ownBlock])
    | some x => exact .inr (by have := h x y rfl rfl; simp [Value.ownBlock]; omega)
theorem Apart.symm {la ls : Option Addr} (h : Apart la ls) : Apart ls la := fun x y hx hy e => h y x hy hx e.symm
theorem Apart.grown {la ls : Option Addr} {g q c H : Nat} (h : Apart la ls) (hg : (Value.slice la q c).ownBlock = some g ∨ g = H) (hl : ∀ y, ls = some y → y.block < H) : Apart (some ⟨g, 0, none⟩) ls := by
  intro x y hx hy e
  cases hx
  simp only at e
  rcases hg with hg | hg
  · cases la with
    | none => simp [Value.ownBlock] at hg
    | some z => simp [Value.ownBlock] at hg; exact h z y rfl hy (by omega)
  · have := hl y hy; omega
theorem own_at {w : World} {base : Nat} {e : TypeId} {la : Option Addr} {q c : Nat} {L : List Int} (h : w.ownsRow base e 1 (.slice la q c) q (ints L)) (hb : ∀ i : Nat, -9223372036854775808 ≤ L[i]?.getD 0 ∧ L[i]?.getD 0 ≤ 9223372036854775807) :
    IntsAt w la L ∧ L.length = q ∧ (∀ y, la = some y → base ≤ y.block ∧ y.block < w.heap.size) := by
  have hn : L.length = q := by have := h.1; rw [ints_length, Nat.mul_one] at this; exact this
  rcases own_ints h hb with ⟨h1, h2, _⟩ | ⟨g, cap, h1, _, h3, h4, h5⟩
  · cases h1; subst h2; exact ⟨IntsAt.nil _ _, hn, fun y hy => by cases hy⟩
  · cases h1; exact ⟨h5, hn, fun y hy => by cases hy; exact ⟨h3, h4⟩⟩
theorem grown_keep {w w' : World} {la : Option Addr} {q c : Nat} (hg : w.grownBy w' (Value.slice la q c).ownBlock) : Keep (la.toList.map (·.block)) w w' := by
  refine ⟨hg.os, hg.tape, hg.output, hg.size, fun k hk hS => hg.block k hk (fun e => hS ?_)⟩
  cases la with
  | none => simp [Value.ownBlock] at e
  | some x => simp [Value.ownBlock] at e; simp [e]
theorem blocks_ge {la : Option Addr} {base m : Nat} (h : ∀ y, la = some y → base ≤ y.block ∧ y.block < m) : ∀ x, x ∈ la.toList.map (·.block) → base ≤ x := by
  intro x hx
  cases la with
  | none => simp at hx
  | some y => simp at hx; subst hx; exact (h y rfl).1

theorem own_keepS {S : List Nat} {w w' : World} {base : Nat} {e : TypeId} {size : Nat} {la : Option Addr} {q c n : Nat} {xs : List Value} (h : w.ownsRow base e size (.slice la q c) n xs) (k : Keep S w w') (hS : ∀ y, la = some y → y.block ∉ S) : w'.ownsRow base e size (.slice la q c) n xs := by
  refine ⟨h.1, ?_⟩
  rcases h.2 with h | ⟨g, cap, cur, h1, h2, h3, h4⟩
  · exact .inl h
  · refine .inr ⟨g, cap, cur, h1, h2, k.blk h3 ?_, h4⟩
    cases h1
    exact hS _ rfl

end Go.Proofs.Ytjlfjbdkffppeaa
