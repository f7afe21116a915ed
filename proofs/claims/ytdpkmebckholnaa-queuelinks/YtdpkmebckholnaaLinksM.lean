/-
  The plain mathematics of QueueLinks: in a row each leads to the next one.
-/
import Derived.Test.YtdpkmebckholnaaQueueM
namespace Go.Proofs.Ytdpkmebckholnaa
open Go.RowKit

/-- Of the first k references those from p on are in a row. -/
structure Lk (kd : List PK) (A : Nat → Nat) (ws : List Int) (p k : Nat) : Prop where
  fine : Fine ws kd []
  refs : ∀ j, j < 20 → RefA kd ws (A j)
  link : ∀ i, p ≤ i → i < k → ws[A i + 3]?.getD 0 = if i + 1 < k then (A (i + 1) : Int) else 0
def dropL (A : Nat → Nat) (k p : Nat) : List Int := (aL A k).drop p
theorem dropL_length (A : Nat → Nat) (k p : Nat) : (dropL A k p).length = k - p := by unfold dropL; rw [List.length_drop, aL_length]
theorem dropL_get (A : Nat → Nat) (k p i : Nat) (h : p + i < k) : (dropL A k p)[i]?.getD 0 = (A (p + i) : Int) := by
  unfold dropL
  rw [List.getElem?_drop, aL_get A k (p + i) h]
theorem dropL_zero (A : Nat → Nat) (k : Nat) : dropL A k 0 = aL A k := rfl
theorem dropL_cons (A : Nat → Nat) (k p : Nat) (h : p < k) : dropL A k p = (A p : Int) :: dropL A k (p + 1) := by
  unfold dropL
  rw [List.drop_eq_getElem_cons (by rw [aL_length]; exact h)]
  congr 1
  simp [aL]
theorem Lk.push {kd : List PK} {A : Nat → Nat} {ws : List Int} {k : Nat} (h : Lk kd A ws 0 k) (hk : k < 20) (ne : ∀ i j, i < 20 → j < i → A i ≠ A j) :
    ∃ ws', PushT kd ws [aL A k] 0 (A k : Int) 0 ws' [aL A (k + 1)] ∧ Lk kd A ws' 0 (k + 1) := by
  have hR := h.refs k hk
  have hp := hR.place h.fine
  cases k with
  | zero =>
    have h1 := hR.pushFirst (Ls := [aL A 0]) (j := 0) h.fine rfl
    refine ⟨_, h1, hR.fineSet h.fine inI_0, fun j hj => hR.kept h.fine (h.refs j hj) 0, fun i _ hi => ?_⟩
    obtain rfl : i = 0 := by omega
    rw [set_get_same _ _ _ hp.2.1, if_neg (by omega)]
  | succ k =>
    have hy := h.refs k (by omega)
    have hyp := hy.place h.fine
    have h1 := hR.pushMore (Ls := [aL A (k + 1)]) (j := 0) (y := A k) (L := aL A k) h.fine (by rw [aL_snoc]; rfl) hy
    have f1 := hy.fineSet h.fine (hR.inI h.fine)
    have r1 : ∀ j, j < 20 → RefA kd (ws.set (A k + 3) (A (k + 1) : Int)) (A j) := fun j hj => hy.kept h.fine (h.refs j hj) _
    refine ⟨_, ?_, (r1 (k + 1) hk).fineSet f1 inI_0, fun j hj => (r1 (k + 1) hk).kept f1 (r1 j hj) 0, fun i _ hi => ?_⟩
    · have e : [aL A (k + 1)].set 0 (aL A k ++ [(A k : Int)] ++ [(A (k + 1) : Int)]) = [aL A (k + 1 + 1)] := by
        rw [aL_snoc A (k + 1), aL_snoc A k]; rfl
      rw [e] at h1
      exact h1
    · have n1 := ne (k + 1) k hk (by omega)
      rcases Nat.lt_or_ge i (k + 1) with hi2 | hi2
      · have n2 := ne (k + 1) i hk (by omega)
        rw [set_get_other _ _ _ _ (by omega)]
        rcases Nat.lt_or_ge i k with hi3 | hi3
        · have n3 := ne k i (by omega) hi3
          rw [set_get_other _ _ _ _ (by omega), h.link i (by omega) (by omega), if_pos (by omega), if_pos (by omega)]
        · obtain rfl : i = k := by omega
          rw [set_get_same _ _ _ hyp.2.1, if_pos (by omega)]
      · obtain rfl : i = k + 1 := by omega
        rw [set_get_same _ _ _ (by rw [List.length_set]; exact hp.2.1), if_neg (by omega)]
theorem Lk.poll {kd : List PK} {A : Nat → Nat} {ws : List Int} {p k : Nat} (h : Lk kd A ws p k) (hp : p < k) (hk : k ≤ 20) (ne : ∀ i j, i < 20 → j < i → A i ≠ A j) :
    ∃ ws', PollT kd ws [dropL A k p] 0 (A p : Int) 0 ws' [dropL A k (p + 1)] ∧ Lk kd A ws' (p + 1) k := by
  have hR := h.refs p (by omega)
  have h1 := hR.poll (Ls := [dropL A k p]) (j := 0) (L := dropL A k (p + 1)) h.fine (by rw [dropL_cons A k p hp]; rfl)
  refine ⟨_, h1, hR.fineSet h.fine inI_0, fun j hj => hR.kept h.fine (h.refs j hj) 0, fun i hi1 hi2 => ?_⟩
  have n1 := ne i p (by omega) (by omega)
  rw [set_get_other _ _ _ _ (by omega)]
  exact h.link i (by omega) hi2

end Go.Proofs.Ytdpkmebckholnaa
