/-
  A list of one's own whose elements take several cells each: where each cell lies.
-/
import Derived.Test.YtgpidokklhjfdaaGreatPart6
namespace Go.Proofs.YtgpidokklhjfdaaGreat
open Go.RowKit

theorem wide_length (m : Nat) (vs : List (List Value)) (hl : ∀ v, v ∈ vs → v.length = m) : vs.flatten.length = vs.length * m := by
  induction vs with
  | nil => simp
  | cons d vs ih =>
    have h1 := hl d (by simp)
    have h2 := ih (fun v hv => hl v (by simp [hv]))
    simp only [List.flatten_cons, List.length_append, List.length_cons, h1, h2, Nat.succ_mul]
    omega
theorem wide_get (m : Nat) (vs : List (List Value)) (hl : ∀ v, v ∈ vs → v.length = m) (i : Nat) (v : List Value) (h : vs[i]? = some v) (t : Nat) (ht : t < m) : vs.flatten[i * m + t]? = v[t]? := by
  induction vs generalizing i with
  | nil => simp at h
  | cons d vs ih =>
    have hd : d.length = m := hl d (by simp)
    rw [List.flatten_cons]
    cases i with
    | zero => simp at h; subst h; rw [List.getElem?_append_left (by omega)]; simp
    | succ i =>
      simp at h
      rw [List.getElem?_append_right (by rw [hd, Nat.succ_mul]; omega), hd, show (i + 1) * m + t - m = i * m + t by rw [Nat.succ_mul]; omega]
      exact ih (fun v hv => hl v (by simp [hv])) i h
theorem wide_cells {w : World} {base n vc m : Nat} {e : TypeId} {va : Option Addr} {vs : List (List Value)} (hown : w.ownsRow base e m (.slice va n vc) n vs.flatten) (hl : ∀ v, v ∈ vs → v.length = m) (hn : vs.length = n) (h0 : 0 < n) :
    ∃ b, va = some ⟨b, 0, none⟩ ∧ base ≤ b ∧ b < w.heap.size ∧ ∀ (i : Nat) (v : List Value) (t : Nat), vs[i]? = some v → t < m → w.cell? ⟨b, i * m + t, none⟩ = v[t]? := by
  rcases hown.2 with ⟨h1, h0⟩ | ⟨g, cap, cur, h1, h2, h3, h4, h5, h6, h7⟩
  · omega
  · cases h1
    refine ⟨g, rfl, h2, lt_of_block h3, fun i v t hv ht => ?_⟩
    have hi : i < vs.length := by
      rcases Nat.lt_or_ge i vs.length with e | e
      · exact e
      · rw [List.getElem?_eq_none e] at hv; cases hv
    rw [hn] at hi
    have e := wide_get m vs hl i v hv t ht
    have hlt : i * m + t < n * m := by
      have : (i + 1) * m ≤ n * m := Nat.mul_le_mul_right m (by omega)
      rw [Nat.succ_mul] at this
      omega
    rw [← h7, List.getElem?_take, if_pos hlt] at e
    have e' : cur[i * m + t]? = v[t]? := by simpa using e
    simp [World.cell?, h3, e']
/-- A row of one's own: its block, if it has one. -/
theorem own_far {w : World} {base n vc m : Nat} {e : TypeId} {va : Option Addr} {xs : List Value} (h : w.ownsRow base e m (.slice va n vc) n xs) : ∀ a, va = some a → base ≤ a.block ∧ a.block < w.heap.size := by
  intro a e
  rcases h.2 with ⟨h1, _⟩ | ⟨g, cap, cur, h1, h2, h3, _⟩
  · cases h1; cases e
  · cases h1; cases e; exact ⟨h2, lt_of_block h3⟩
theorem own_blk {va : Option Addr} {n vc k : Nat} (h : (Value.slice va n vc).ownBlock = some k) : ∃ a, va = some a ∧ a.block = k := by
  cases va with
  | none => simp [Value.ownBlock] at h
  | some a => simp [Value.ownBlock] at h; exact ⟨a, rfl, h⟩

end Go.Proofs.YtgpidokklhjfdaaGreat
