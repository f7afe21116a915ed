/-
  A row of objects each of which leads to the next one, and to many: what is marked of it. Plain facts.
-/
import Derived.Test.YtgpidokklhjfdaaRowsG
namespace Go.Proofs.Ytgpidokklhjfdaa
open Go.RowKit

section
variable {kd : List PK} {ws : List Int} {ds : List (Int × List Int)} {n : Nat} {A : Nat → Nat} {kk cc ll : Nat → Int}
theorem OT.fieldT (h : OT kd ws ds n A kk cc ll) {j t : Nat} (hj : j < n) (ht : (t : Int) < ll j) : FieldT kd ws (A j) t (ws[A j + 1 + t]?.getD 0) 0 := by
  have hi := h.inner j t hj ht
  obtain ⟨m, hm⟩ := h.objs j hj
  have h1 := at_room h.fine hm
  exact .yes (A j + 1 + t) (.yes (A j) m t (kk j) (cc j) (ll j) false hm rfl ht h1) (hi.lt h.fine)
theorem OT.led2 (h : OT kd ws ds n A kk cc ll) {j w : Nat} (hj : j < n) (hk : kk j = 2) (hl : ll j = w) (y : Int) : Led kd ws ds (A j) y ↔ ∃ t : Nat, t < w ∧ y = ws[A j + 1 + t]?.getD 0 := by
  obtain ⟨m, hm⟩ := h.objs j hj
  rw [hk] at hm
  have hR : RefsT kd ws ds (A j) (upL (ll j)) := .refs (A j) m _ _ _ hm
  constructor
  · rintro ⟨R, i, E, h1, h2, h3⟩
    obtain rfl := refsT_one hR h1
    obtain ⟨t, ht, rfl⟩ := List.getElem_of_mem h2
    have ht' : t < w := by rw [upL_length, hl] at ht; simpa using ht
    have e : (upL (ll j))[t] = (t : Int) := by
      have := upL_get (ll j) t (by rw [hl]; simpa using ht')
      rw [List.getElem?_eq_getElem ht] at this
      simpa using this
    rw [e] at h3
    exact ⟨t, ht', (fieldT_one h3 (h.fieldT hj (by rw [hl]; omega))).1⟩
  · rintro ⟨t, ht, rfl⟩
    refine ⟨_, t, 0, hR, ?_, h.fieldT hj (by rw [hl]; omega)⟩
    have htl : t < (upL (ll j)).length := by rw [upL_length, hl]; simpa using ht
    have e : (upL (ll j))[t] = (t : Int) := by
      have := upL_get (ll j) t (by rw [hl]; simpa using ht)
      rw [List.getElem?_eq_getElem htl] at this
      simpa using this
    rw [← e]
    exact List.getElem_mem htl
theorem OT.led4 (h : OT kd ws ds n A kk cc ll) {j : Nat} (hj : j < n) (hk : kk j = 4) (hl : ll j = 5) (y : Int) (hy : Led kd ws ds (A j) y) : y = ws[A j + 1 + 2]?.getD 0 := by
  obtain ⟨m, hm⟩ := h.objs j hj
  rw [hk] at hm
  obtain ⟨R, i, E, h1, h2, h3⟩ := hy
  obtain rfl := refsT_one (RefsT.ref (A j) m _ _ _ hm) h1
  obtain rfl : i = 2 := by simpa using h2
  exact (fieldT_one h3 (h.fieldT (t := 2) hj (by rw [hl]; omega))).1
theorem OT.noat (h : OT kd ws ds n A kk cc ll) {x : Int} (hx : x < 64) : isAt kd x = false := by
  cases e : isAt kd x with
  | false => rfl
  | true =>
    obtain ⟨j, hj, rfl⟩ := h.all x e
    have := h.bd j hj
    omega
end
/-- The fields of the i-th of k objects of w fields. -/
def rZ (A : Nat → Nat) (k w i : Nat) : List Int := (List.range w).map (fun t => (A (i + 1 + t % (k - 1 - i)) : Int))
theorem rZ_length (A : Nat → Nat) (k w i : Nat) : (rZ A k w i).length = w := by simp [rZ]
theorem rZ_get (A : Nat → Nat) (k w i t : Nat) (h : t < w) : (rZ A k w i)[t]?.getD 0 = (A (i + 1 + t % (k - 1 - i)) : Int) := by simp [rZ, h]
theorem rmod (k i t : Nat) (h : i + 1 < k) : i + 1 + t % (k - 1 - i) < k := by
  have := Nat.mod_lt t (show 0 < k - 1 - i by omega)
  omega
theorem rows_ex (k w : Nat) (hk : k ≤ 41) (hw : w ≤ 30) : ∃ W K A, PChain 200 [] k (fun _ => 2) (fun _ => 0) (fun _ => (w : Int)) W K A :=
  pchain_ex 200 [] _ _ _ (by omega) (by omega) (by simp) k (by omega) (fun i _ => ⟨may_refs w (by omega) (by omega), .other (by omega), pages_few _ (by omega) (by omega)⟩)
section
variable {k w : Nat} {W : Nat → List Int} {K : Nat → List PK} {A : Nat → Nat}
theorem rows_bd (hC : PChain 200 [] k (fun _ => 2) (fun _ => 0) (fun _ => (w : Int)) W K A) (i : Nat) (hi : i < k) : 64 ≤ A i ∧ A i < 16384 := by
  have := (hC.ot k (Nat.le_refl _)).bd i hi
  omega
theorem rows_Z (hC : PChain 200 [] k (fun _ => 2) (fun _ => 0) (fun _ => (w : Int)) W K A) (i : Nat) (hi : i + 1 < k) : ((rZ A k w i).length : Int) ≤ w ∧ ∀ t : Nat, inI ((rZ A k w i)[t]?.getD 0) := by
  refine ⟨by rw [rZ_length]; omega, fun t => ?_⟩
  by_cases ht : t < w
  · rw [rZ_get _ _ _ _ _ ht]
    have := rows_bd hC (i + 1 + t % (k - 1 - i)) (rmod k i t hi)
    unfold inI; omega
  · rw [List.getElem?_eq_none (by rw [rZ_length]; omega)]; exact inI_0
/-- All fields are put. -/
def rP (W0 : List Int) (A : Nat → Nat) (k w i : Nat) : List Int := phW W0 A (fun i => if i + 1 < k then rZ A k w i else []) i
theorem rP_zero (W0 : List Int) : rP W0 A k w 0 = W0 := rfl
theorem rP_succ (W0 : List Int) {i : Nat} (h : i + 1 < k) : rP W0 A k w (i + 1) = putsK (rP W0 A k w i) (A i + 1) (rZ A k w i) w := by
  show putsK (rP W0 A k w i) (A i + 1) (if i + 1 < k then rZ A k w i else []) (if i + 1 < k then rZ A k w i else []).length = _
  rw [if_pos h, rZ_length]
theorem rows_Zs (hC : PChain 200 [] k (fun _ => 2) (fun _ => 0) (fun _ => (w : Int)) W K A) : ∀ i, i < k → ((if i + 1 < k then rZ A k w i else [] : List Int).length : Int) ≤ w ∧ ∀ t : Nat, inI ((if i + 1 < k then rZ A k w i else [] : List Int)[t]?.getD 0) := by
  intro i hi
  by_cases h : i + 1 < k
  · rw [if_pos h]; exact rows_Z hC i h
  · rw [if_neg h]; exact ⟨by simp, fun t => by simp [inI]⟩
theorem rows_ot (hC : PChain 200 [] k (fun _ => 2) (fun _ => 0) (fun _ => (w : Int)) W K A) (i : Nat) (hi : i ≤ k) : OT (K k) (rP (W k) A k w i) [] k A (fun _ => 2) (fun _ => 0) (fun _ => (w : Int)) :=
  (hC.ot k (Nat.le_refl _)).phase _ (rows_Zs hC) i hi
theorem rows_put (hC : PChain 200 [] k (fun _ => 2) (fun _ => 0) (fun _ => (w : Int)) W K A) (i j : Nat) (hi : i + 1 < k) (hj : j < w) : PutT (K k) (putsK (rP (W k) A k w i) (A i + 1) (rZ A k w i) j) (A i) j (A (i + 1 + j % (k - 1 - i))) 0 (putsK (rP (W k) A k w i) (A i + 1) (rZ A k w i) (j + 1)) := by
  have h := (rows_ot hC i (by omega)).putsT i (by omega) (rZ A k w i) (rows_Z hC i hi).2 j (by show ((j + 1 : Nat) : Int) ≤ (w : Int); omega)
  rw [rZ_get _ _ _ _ _ hj] at h
  exact h
/-- Put once more the first field is as it was. -/
theorem rows_again (hC : PChain 200 [] k (fun _ => 2) (fun _ => 0) (fun _ => (w : Int)) W K A) (i : Nat) (hi : i + 1 < k) (hw : 0 < w) : PutT (K k) (putsK (rP (W k) A k w i) (A i + 1) (rZ A k w i) w) (A i) 0 (A (i + 1)) 0 (rP (W k) A k w (i + 1)) := by
  have hO := rows_ot hC (i + 1) (by omega)
  have hb := rows_bd hC (i + 1) hi
  have h := (hO.put i 0 (by omega) (by show ((0 : Nat) : Int) < (w : Int); omega) (A (i + 1)) (by unfold inI; omega)).1
  have hlt : A i + 1 + 0 < (rP (W k) A k w (i + 1)).length := (hO.inner i 0 (by omega) (by show ((0 : Nat) : Int) < (w : Int); omega)).lt hO.fine
  have hg := (hC.ot k (Nat.le_refl _)).phW_get _ (rows_Zs hC) (i + 1) (by omega) i 0 (by omega) (by show ((0 : Nat) : Int) < (w : Int); omega)
  rw [if_pos ⟨by omega, by rw [if_pos hi, rZ_length]; exact hw⟩, if_pos hi, rZ_get _ _ _ _ _ hw, Nat.zero_mod, Nat.add_zero] at hg
  rw [set_self _ _ _ hlt hg] at h
  rw [← rP_succ _ hi]
  exact h
/-- A field, when all are put. -/
theorem rows_field (hC : PChain 200 [] k (fun _ => 2) (fun _ => 0) (fun _ => (w : Int)) W K A) (i t : Nat) (hi : i < k) (ht : t < w) : (rP (W k) A k w (k - 1))[A i + 1 + t]?.getD 0 = if i + 1 < k then (A (i + 1 + t % (k - 1 - i)) : Int) else 0 := by
  have hg := (hC.ot k (Nat.le_refl _)).phW_get _ (rows_Zs hC) (k - 1) (by omega) i t hi (by show ((t : Nat) : Int) < (w : Int); omega)
  by_cases h : i + 1 < k
  · rw [if_pos ⟨by omega, by rw [if_pos h, rZ_length]; exact ht⟩, if_pos h, rZ_get _ _ _ _ _ ht] at hg
    rw [if_pos h]
    exact hg
  · rw [if_neg (fun e => by omega)] at hg
    rw [if_neg h]
    exact hg.trans (hC.zero k (Nat.le_refl _) i t hi (by show ((t : Nat) : Int) < (w : Int); omega))
theorem rows_end (hC : PChain 200 [] k (fun _ => 2) (fun _ => 0) (fun _ => (w : Int)) W K A) (hk : 2 ≤ k) (hk2 : k ≤ 41) (hw : 1 ≤ w) :
    ∃ (r : Nat) (W2 W3 : List Int) (K2 : List PK), MakeT (K k) (rP (W k) A k w (k - 1)) [] 4 1 5 false (r : Int) 0 W2 K2 ∧ PutT K2 W2 r 0 (A 0) 0 W3 ∧ r ≤ 16384 ∧ MOk K2 W3 [] (offs W3.length) ∧
      ∀ j, j < k → ∃ ys, MarkT K2 W3 [] (offs W3.length) [(A j : Int), (r : Int), 0, -5] ys ∧ onM ys (r : Int) = true ∧ (∀ i, i < k → onM ys (A i : Int) = decide (j ≤ i)) ∧ (marksL ys).length = k - j + 1 := by
  have hO := rows_ot hC (k - 1) (by omega)
  obtain ⟨hP, hF⟩ := hC.free k (Nat.le_refl _)
  obtain ⟨r, W2, K2, t1, hO2⟩ := hO.snoc (s := 1 + k) (k := 4) (c := 1) (l := 5) (by decide) (.other (by omega)) (pages_few _ (by omega) (by omega)) (by rw [hP]; omega) hF
  have hAk : (if k < k then A k else r) = r := if_neg (Nat.lt_irrefl k)
  have hb0 := rows_bd hC 0 (by omega)
  obtain ⟨t2, hO3⟩ := hO2.put k 0 (by omega) (by show (0 : Int) < (if k < k then (w : Int) else 5); rw [if_neg (Nat.lt_irrefl k)]; omega) (A 0) (by unfold inI; omega)
  obtain ⟨W3, hW3⟩ : ∃ W3, W2.set ((fun i => if i < k then A i else r) k + 1 + 0) (A 0 : Int) = W3 := ⟨_, rfl⟩
  rw [hW3] at t2 hO3
  have hr : r < 16384 := by have := hO3.bd k (by omega); simp only [hAk] at this; omega
  have hlen : W2.length = W3.length := by rw [← hW3, List.length_set]
  have hLr : ((fun i => if i < k then A i else r) k : Nat) = r := hAk
  have hf : ∀ i t, i < k → t < w → W3[A i + 1 + t]?.getD 0 = if i + 1 < k then (A (i + 1 + t % (k - 1 - i)) : Int) else 0 := by
    intro i t hi ht
    obtain ⟨m, hm⟩ := hO.objs i hi
    have hne := hO2.apart (i := i) (j := k) (t := t) (s := 0) (by omega) (by omega) (by omega) (by show (t : Int) < (if i < k then (w : Int) else 5); rw [if_pos hi]; omega) (by show (0 : Int) < (if k < k then (w : Int) else 5); rw [if_neg (Nat.lt_irrefl k)]; omega)
    have hne' : A i + 1 + t ≠ (fun i => if i < k then A i else r) k + 1 + 0 := by simpa [hi] using hne
    rw [← hW3, set_get_other _ _ _ _ (fun e => hne' e.symm), t1.old hO.fine rfl hm (by show (t : Int) < (w : Int); omega)]
    exact rows_field hC i t hi ht
  have hr2 : W3[r + 1 + 2]?.getD 0 = 0 := by
    rw [← hW3, hLr, set_get_other _ _ _ _ (by omega)]
    exact t1.zero hO.fine rfl r 2 rfl (by omega)
  have hinj : ∀ i i', i < k → i' < k → A i = A i' → i = i' := hO.ne
  have hnr : ∀ i, i < k → A i ≠ r := fun i hi e => by
    have := hO3.ne i k (by omega) (by omega) (by show (if i < k then A i else r) = (if k < k then A k else r); rw [if_pos hi, hAk]; exact e)
    omega
  have hat : ∀ i, i < k → isAt K2 (A i : Int) = true := fun i hi => by have := hO3.atI i (by omega); simpa [hi] using this
  have hatr : isAt K2 (r : Int) = true := by have := hO3.atI k (by omega); simpa [hAk] using this
  have hled : ∀ i y, i < k → Led K2 W3 [] (A i : Int) y → isAt K2 y = true → ∃ i', i < i' ∧ i' < k ∧ y = (A i' : Int) := by
    intro i y hi hy hya
    have h2 := (hO3.led2 (j := i) (w := w) (by omega) (by show (if i < k then (2 : Int) else 4) = 2; rw [if_pos hi]) (by show (if i < k then (w : Int) else 5) = w; rw [if_pos hi]) y)
    simp only [if_pos hi] at h2
    obtain ⟨t, ht, rfl⟩ := h2.1 hy
    rw [hf i t hi ht] at hya ⊢
    by_cases h : i + 1 < k
    · rw [if_pos h]
      exact ⟨_, by omega, rmod k i t h, rfl⟩
    · rw [if_neg h, hO3.noat (by omega)] at hya; cases hya
  have hnext : ∀ i, i + 1 < k → Led K2 W3 [] (A i : Int) (A (i + 1) : Int) := by
    intro i hi
    have h2 := (hO3.led2 (j := i) (w := w) (by omega) (by show (if i < k then (2 : Int) else 4) = 2; rw [if_pos (by omega)]) (by show (if i < k then (w : Int) else 5) = w; rw [if_pos (by omega)]) (A (i + 1) : Int))
    simp only [if_pos (show i < k by omega)] at h2
    exact h2.2 ⟨0, by omega, by rw [hf i 0 (by omega) (by omega), if_pos hi, Nat.zero_mod, Nat.add_zero]⟩
  have hledr : ∀ y, Led K2 W3 [] (r : Int) y → isAt K2 y = true → False := by
    intro y hy hya
    have h4 := hO3.led4 (j := k) (by omega) (by show (if k < k then (2 : Int) else 4) = 4; rw [if_neg (Nat.lt_irrefl k)]) (by show (if k < k then (w : Int) else 5) = 5; rw [if_neg (Nat.lt_irrefl k)]) y
    simp only [hAk] at h4
    have e := h4 hy
    rw [e, hr2, hO3.noat (by omega)] at hya; cases hya
  have hputr : PutT K2 W2 (r : Int) 0 (A 0 : Int) 0 W3 := by
    have h := t2
    simp only [hAk] at h
    exact h
  refine ⟨r, W2, W3, K2, t1, hputr, by omega, MOk.offs, fun j hj => ?_⟩
  obtain ⟨ys, hT⟩ := markT_ex hO3.fine (offs W3.length) (offs_length _) [(A j : Int), (r : Int), 0, -5]
  have hiff : ∀ x, onM ys x = true ↔ x = (r : Int) ∨ ∃ i, j ≤ i ∧ i < k ∧ x = (A i : Int) := by
    intro x
    rw [hT.iff, onM_offs]
    constructor
    · intro h
      rcases h with h | h
      · cases h
      · induction h with
        | root h1 h2 =>
          simp at h1
          rcases h1 with rfl | rfl | rfl | rfl
          · exact .inr ⟨j, Nat.le_refl _, hj, rfl⟩
          · exact .inl rfl
          · rw [hO3.noat (by omega)] at h2; cases h2
          · rw [hO3.noat (by omega)] at h2; cases h2
        | step h1 h2 h3 ih =>
          rcases ih with rfl | ⟨i, h4, h5, rfl⟩
          · exact (hledr _ h2 h3).elim
          · obtain ⟨i', h6, h7, rfl⟩ := hled i _ h5 h2 h3
            exact .inr ⟨i', by omega, h7, rfl⟩
    · rintro (rfl | ⟨i, h1, h2, rfl⟩)
      · exact .inr (.root (by simp) hatr)
      · refine .inr ?_
        have : ∀ s, j + s < k → Reach K2 W3 [] [(A j : Int), (r : Int), 0, -5] (A (j + s) : Int) := by
          intro s
          induction s with
          | zero => intro _; exact .root (by simp) (hat j hj)
          | succ s ih => intro hs; exact .step (ih (by omega)) (hnext (j + s) (by omega)) (hat _ hs)
        have h3 := this (i - j) (by omega)
        rwa [show j + (i - j) = i by omega] at h3
  refine ⟨ys, hT, (hiff _).2 (.inl rfl), fun i hi => ?_, ?_⟩
  · by_cases h : j ≤ i
    · rw [decide_eq_true h]; exact (hiff _).2 (.inr ⟨i, h, hi, rfl⟩)
    · rw [decide_eq_false h]
      cases e : onM ys (A i : Int) with
      | false => rfl
      | true =>
        exfalso
        rcases (hiff _).1 e with e | ⟨i', h1, h2, e⟩
        · exact hnr i hi (by omega)
        · have := hinj i i' hi h2 (by omega)
          omega
  · have hnd : ((r : Int) :: (List.range (k - j)).map (fun i => (A (j + i) : Int))).Nodup := by
      rw [List.nodup_cons]
      refine ⟨fun e => ?_, ?_⟩
      · rw [List.mem_map] at e
        obtain ⟨i, hi, e⟩ := e
        rw [List.mem_range] at hi
        exact hnr (j + i) (by omega) (by omega)
      · rw [List.nodup_iff_pairwise_ne, List.pairwise_map]
        refine List.Pairwise.imp_of_mem (fun {a b} ha hb hab e => hab ?_) (List.nodup_iff_pairwise_ne.1 List.nodup_range)
        rw [List.mem_range] at ha hb
        have := hinj (j + a) (j + b) (by omega) (by omega) (by omega)
        omega
    rw [nodup_same (marksL_nodup ys) hnd (fun x => ?_)]
    · simp
    · rw [marksL_mem, hiff, List.mem_cons, List.mem_map]
      refine or_congr Iff.rfl ⟨?_, ?_⟩
      · rintro ⟨i, h1, h2, rfl⟩
        exact ⟨i - j, by rw [List.mem_range]; omega, by rw [show j + (i - j) = i by omega]⟩
      · rintro ⟨i, hi, rfl⟩
        rw [List.mem_range] at hi
        exact ⟨j + i, by omega, by omega, rfl⟩
end

end Go.Proofs.Ytgpidokklhjfdaa
