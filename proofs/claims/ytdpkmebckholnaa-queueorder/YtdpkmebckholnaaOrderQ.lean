/-
  The plain mathematics of QueueOrder: three rows that grow, then go from the first one on; rows that make lays.
-/
import Derived.Test.YtdpkmebckholnaaQueueM
import Derived.Test.YtdpkmebckholnaaPart4
namespace Go.Proofs.Ytdpkmebckholnaa
open Go.RowKit

/-- Rows of references of the first 20. -/
structure Rw (kd : List PK) (A : Nat → Nat) (ws : List Int) (Ls : List (List Int)) (b : Nat) : Prop where
  fine : Fine ws kd []
  refs : ∀ j, j < 20 → RefA kd ws (A j)
  three : Ls.length = 3
  each : ∀ L, L ∈ Ls → L.length ≤ b ∧ ∀ x, x ∈ L → ∃ j, j < 20 ∧ x = (A j : Int)
theorem Rw.start {kd : List PK} {A : Nat → Nat} {ws : List Int} (hf : Fine ws kd []) (hr : ∀ j, j < 20 → RefA kd ws (A j)) : Rw kd A ws (nQ 3) 0 :=
  ⟨hf, hr, nQ_length 3, fun L hL => by unfold nQ at hL; rw [List.eq_of_mem_replicate hL]; simp⟩
theorem Rw.push {kd : List PK} {A : Nat → Nat} {ws : List Int} {Ls : List (List Int)} {i k : Nat} {L : List Int} (h : Rw kd A ws Ls i) (hi : i < 20) (hk : Ls[k]? = some L) :
    ∃ ws', PushT kd ws Ls (k : Int) (A i : Int) 0 ws' (Ls.set k (L ++ [(A i : Int)])) ∧ Rw kd A ws' (Ls.set k (L ++ [(A i : Int)])) (i + 1) := by
  have hR := h.refs i hi
  have hE := h.each L (List.mem_of_getElem? hk)
  have hE2 : ∀ M, M ∈ Ls.set k (L ++ [(A i : Int)]) → M.length ≤ i + 1 ∧ ∀ x, x ∈ M → ∃ j, j < 20 ∧ x = (A j : Int) := by
    intro M hM
    rcases List.mem_or_eq_of_mem_set hM with e | e
    · have := h.each M e
      exact ⟨by omega, this.2⟩
    · subst e
      refine ⟨by simp; omega, fun x hx => ?_⟩
      rcases List.mem_append.1 hx with e | e
      · exact hE.2 x e
      · exact ⟨i, hi, by simpa using e⟩
  rcases List.eq_nil_or_concat L with rfl | ⟨L', y, rfl⟩
  · exact ⟨_, hR.pushFirst h.fine hk, hR.fineSet h.fine inI_0, fun j hj => hR.kept h.fine (h.refs j hj) 0, by rw [List.length_set]; exact h.three, hE2⟩
  · obtain ⟨j, hj, e⟩ := hE.2 y (by simp)
    subst e
    have hy := h.refs j hj
    have f1 := hy.fineSet h.fine (hR.inI h.fine)
    have r1 : ∀ t, t < 20 → RefA kd (ws.set (A j + 3) (A i : Int)) (A t) := fun t ht => hy.kept h.fine (h.refs t ht) _
    rw [List.concat_eq_append] at hk hE2 ⊢
    exact ⟨_, hR.pushMore h.fine hk hy, (r1 i hi).fineSet f1 inI_0, fun t ht => (r1 i hi).kept f1 (r1 t ht) 0, by rw [List.length_set]; exact h.three, hE2⟩
theorem Rw.small {kd : List PK} {A : Nat → Nat} {ws : List Int} {Ls : List (List Int)} {b : Nat} (h : Rw kd A ws Ls b) {L : List Int} (hL : L ∈ Ls) : L.length ≤ b ∧ inR L := by
  refine ⟨(h.each L hL).1, fun t => ?_⟩
  by_cases ht : t < L.length
  · obtain ⟨j, hj, e⟩ := (h.each L hL).2 L[t] (List.getElem_mem ht)
    rw [List.getElem?_eq_getElem ht, e]
    have h1 := (h.refs j hj).inI h.fine
    exact h1
  · rw [List.getElem?_eq_none (by omega)]; simp
/-- What polls leave: of row k the first i are gone. -/
structure Gone (Rs Ls : List (List Int)) (k i : Nat) : Prop where
  now : ∀ R, Rs[k]? = some R → Ls[k]? = some (R.drop i)
  next : ∀ t, k < t → Ls[t]? = Rs[t]?
theorem Gone.start (Rs : List (List Int)) : Gone Rs Rs 0 0 := ⟨fun R h => by simpa using h, fun _ _ => rfl⟩
theorem Gone.row {Rs Ls : List (List Int)} {k i : Nat} (h : Gone Rs Ls k i) : Gone Rs Ls (k + 1) 0 := ⟨fun R hR => by rw [h.next (k + 1) (by omega), hR]; simp, fun t ht => h.next t (by omega)⟩
theorem Gone.poll {kd : List PK} {A : Nat → Nat} {ws : List Int} {Rs Ls : List (List Int)} {R : List Int} {k i b : Nat} (h : Gone Rs Ls k i) (hw : Rw kd A ws Ls b) (hR : Rs[k]? = some R) (hi : i < R.length) :
    ∃ (a : Nat) (Ls' : List (List Int)), R[i]?.getD 0 = (a : Int) ∧ a ≤ 20000 ∧ 64 ≤ a ∧ PollT kd ws Ls (k : Int) (a : Int) 0 (ws.set (a + 3) 0) Ls' ∧ Rw kd A (ws.set (a + 3) 0) Ls' b ∧ Gone Rs Ls' k (i + 1) ∧ FieldT kd (ws.set (a + 3) 0) (a : Int) 2 0 0 := by
  have hn := h.now R hR
  have hd : R.drop i = R[i] :: R.drop (i + 1) := List.drop_eq_getElem_cons hi
  rw [hd] at hn
  have hE := hw.each _ (List.mem_of_getElem? hn)
  obtain ⟨j, hj, e⟩ := hE.2 R[i] (List.mem_cons_self)
  have hRf := hw.refs j hj
  rw [e] at hn
  have hf2 := hRf.fineSet hw.fine inI_0
  have hR2 := hRf.kept hw.fine hRf 0
  have hp := hRf.place hw.fine
  have hkl : k < Ls.length := by
    rcases Nat.lt_or_ge k Ls.length with e | e
    · exact e
    · rw [List.getElem?_eq_none e] at hn; cases hn
  refine ⟨A j, Ls.set k (R.drop (i + 1)), by rw [List.getElem?_eq_getElem hi, ← e]; rfl, by have := hw.fine.len; have := hw.fine.wf.len2; omega, hp.2.2, hRf.poll hw.fine hn, ⟨hf2, fun t ht => hRf.kept hw.fine (hw.refs t ht) 0, by rw [List.length_set]; exact hw.three, fun M hM => ?_⟩, ⟨fun R' hR' => ?_, fun t ht => ?_⟩, ?_⟩
  · rcases List.mem_or_eq_of_mem_set hM with e | e
    · exact hw.each M e
    · subst e
      refine ⟨by have := hE.1; simp at this ⊢; omega, fun x hx => hE.2 x (List.mem_cons_of_mem _ hx)⟩
  · rw [hR] at hR'
    cases hR'
    exact set_at hkl
  · rw [List.getElem?_set_ne (by omega)]
    exact h.next t ht
  · have := hR2.field hf2
    rw [set_get_same _ _ _ hp.2.1] at this
    exact this
theorem rowA_nil (w : World) : ∀ n, (rowA (List.replicate n (midA 3 (.slice none 0 0) []))).at' w []
  | 0 => rfl
  | n + 1 => ⟨[], [], by simp, ⟨rfl, IsMid.nil _ _⟩, rowA_nil w n, by simp⟩
theorem Has.llMade {w0 w : World} {F0 : List Nat} {A : Asn} (h : Has w0 F0 A w) (n : Nat) (hn : n ≤ 1000) : Has w0 F0 (A.star (llA (some ⟨w.heap.size, 0, none⟩) n (nQ n))) (w.alloc (.cells (madeCells #[.slice none 0 0] n) 24)) := by
  refine h.more (Keep.alloc [] w _) (G := [w.heap.size]) ⟨List.replicate n (.slice none 0 0, []), by simp [nQ], [w.heap.size], [], by simp, ⟨rfl, ⟨by simp, .inr ⟨w.heap.size, n, madeCells #[.slice none 0 0] n, by simp, Nat.zero_le _, heap_alloc_new w _, by simp, by unfold maxLen; omega, ?_, ?_⟩⟩, fun a e => by cases e; simp⟩, ?_, by simp⟩ (fun k hk => by simp at hk; omega)
  · have := congrArg List.length (toList_madeCells_one (.slice none 0 0) n)
    simpa using this
  · rw [toList_madeCells_one]; simp
  · have := rowA_nil (w.alloc (.cells (madeCells #[.slice none 0 0] n) 24)) n
    simpa [List.map_replicate, midP] using this

end Go.Proofs.Ytdpkmebckholnaa
