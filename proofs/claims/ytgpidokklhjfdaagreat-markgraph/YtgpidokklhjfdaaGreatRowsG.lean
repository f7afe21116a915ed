/-
  Rows of objects in a fresh heap: what their fields are, and what is marked of them. Plain facts.
-/
import Derived.Test.YtgpidokklhjfdaaGreatKindsM
namespace Go.Proofs.YtgpidokklhjfdaaGreat
open Go.RowKit

theorem MakeT.old {kd kd' : List PK} {ws ws' : List Int} {ds : List (Int × List Int)} {k c l N E : Int} {f : Bool} (h : MakeT kd ws ds k c l f N E ws' kd') (hf : Fine ws kd ds) (hE : E = 0) {p m t : Nat} {k' c' l' : Int} {f' : Bool} (hat : At kd ws (p : Int) p m k' c' l' f') (ht : (t : Int) < l') : ws'[p + 1 + t]?.getD 0 = ws[p + 1 + t]?.getD 0 := by
  cases h with
  | arg h => rfl
  | fits E _ _ _ e => rfl
  | full _ _ _ _ => rfl
  | yes a b kd' hm e hF hr hb =>
    have hd := (hat.made (x := putH k c l false) hf.wf hf.len hr hb).2
    have hr' := at_room hf hat
    obtain ⟨b', hb', h1, h2, h3, h4, h5, h6, h7⟩ := hr.spec hf.wf
    obtain rfl : b = b' := by rw [hb] at hb'; omega
    have hl := hf.len
    rw [set_get_other _ _ _ _ (by omega), fill0_get _ _ _ _ (by omega), if_neg (by omega)]
theorem PChain.zero {P n : Nat} {ds : List (Int × List Int)} {kk cc ll : Nat → Int} {W : Nat → List Int} {K : Nat → List PK} {A : Nat → Nat} (h : PChain P ds n kk cc ll W K A) (i : Nat) (hi : i ≤ n) : ∀ j t : Nat, j < i → (t : Int) < ll j → (W i)[A j + 1 + t]?.getD 0 = 0 := by
  induction i with
  | zero => intro j t hj; omega
  | succ i ih =>
    intro j t hj ht
    have hf := (h.ot i (by omega)).fine
    have hs := h.step i (by omega)
    by_cases e : j = i
    · subst e; exact hs.zero hf rfl (A j) t rfl ht
    · obtain ⟨m, hm⟩ := (h.ot i (by omega)).objs j (by omega)
      rw [hs.old hf rfl hm ht]
      exact ih (by omega) j t (by omega) ht
section
variable {kd : List PK} {ws : List Int} {ds : List (Int × List Int)} {n : Nat} {A : Nat → Nat} {kk cc ll : Nat → Int}
theorem OT.apart (h : OT kd ws ds n A kk cc ll) {i j t s : Nat} (hi : i < n) (hj : j < n) (ne : i ≠ j) (ht : (t : Int) < ll i) (hs : (s : Int) < ll j) : A i + 1 + t ≠ A j + 1 + s := by
  intro e
  obtain ⟨m, hm⟩ := h.objs i hi
  obtain ⟨m', hm'⟩ := h.objs j hj
  have h1 := at_room h.fine hm
  have h2 := at_room h.fine hm'
  exact ne (h.ne i j hi hj (h.fine.wf.apart (x := A i + 1 + t) hm.2.1 hm'.2.1 (by omega) (by omega) (by omega) (by omega)).1)
theorem putsK_get (ws : List Int) (p : Nat) (Z : List Int) (k q : Nat) (hl : p + k ≤ ws.length) : (putsK ws p Z k)[q]?.getD 0 = if p ≤ q ∧ q < p + k then Z[q - p]?.getD 0 else ws[q]?.getD 0 := by
  induction k with
  | zero => show ws[q]?.getD 0 = _; rw [if_neg (by omega)]
  | succ k ih =>
    show ((putsK ws p Z k).set (p + k) (Z[k]?.getD 0))[q]?.getD 0 = _
    by_cases e : p + k = q
    · subst e
      rw [set_get_same _ _ _ (by rw [putsK_length]; omega), if_pos (by omega), show p + k - p = k by omega]
    · rw [set_get_other _ _ _ _ e, ih (by omega)]
      by_cases h : p ≤ q ∧ q < p + k
      · rw [if_pos h, if_pos (by omega)]
      · rw [if_neg h, if_neg (by omega)]
/-- A field, when the fields of the first objects were put. -/
theorem OT.phW_get (h : OT kd ws ds n A kk cc ll) (Zs : Nat → List Int) (hZ : ∀ i, i < n → ((Zs i).length : Int) ≤ ll i ∧ ∀ t : Nat, inI ((Zs i)[t]?.getD 0)) (i : Nat) (hi : i ≤ n) : ∀ j t : Nat, j < n → (t : Int) < ll j → (phW ws A Zs i)[A j + 1 + t]?.getD 0 = if j < i ∧ t < (Zs j).length then (Zs j)[t]?.getD 0 else ws[A j + 1 + t]?.getD 0 := by
  induction i with
  | zero => intro j t hj ht; show ws[A j + 1 + t]?.getD 0 = _; rw [if_neg (by omega)]
  | succ i ih =>
    intro j t hj ht
    have hO := h.phase Zs hZ i (by omega)
    have hz := (hZ i (by omega)).1
    have hlen : A i + 1 + (Zs i).length ≤ (phW ws A Zs i).length := by
      obtain ⟨m, hm⟩ := hO.objs i (by omega)
      have h1 := at_room hO.fine hm
      have h2 := hm.facts hO.fine.wf
      have := hO.fine.len
      omega
    show (putsK (phW ws A Zs i) (A i + 1) (Zs i) (Zs i).length)[A j + 1 + t]?.getD 0 = _
    rw [putsK_get _ _ _ _ _ hlen]
    by_cases e : j = i
    · subst e
      by_cases e2 : t < (Zs j).length
      · rw [if_pos (by omega), if_pos (by omega), show A j + 1 + t - (A j + 1) = t by omega]
      · rw [if_neg (by omega), if_neg (by omega), ih (by omega) j t hj ht, if_neg (by omega)]
    · have hne : ∀ s : Nat, s < (Zs i).length → A i + 1 + s ≠ A j + 1 + t := fun s hs => h.apart (by omega) hj (fun e' => e e'.symm) (by omega) ht
      rw [if_neg (fun hh => hne (A j + 1 + t - (A i + 1)) (by omega) (by omega)), ih (by omega) j t hj ht]
      by_cases e2 : j < i ∧ t < (Zs j).length
      · rw [if_pos e2, if_pos (by omega)]
      · rw [if_neg e2, if_neg (by omega)]
/-- One more is made. -/
theorem OT.snoc (h : OT kd ws ds n A kk cc ll) {s : Nat} {k c l : Int} (hm : mayH k c l false = true) (hF : FitsT ds k c l 0) (hp : pagesI (l + 1) ≤ (1 : Nat)) (hs : s + 1 ≤ kd.length) (hfree : FreeFrom kd s) :
    ∃ (a : Nat) (ws' : List Int) (kd' : List PK), MakeT kd ws ds k c l false (a : Int) 0 ws' kd' ∧ OT kd' ws' ds (n + 1) (fun i => if i < n then A i else a) (fun i => if i < n then kk i else k) (fun i => if i < n then cc i else c) (fun i => if i < n then ll i else l) := by
  have hf := h.fine
  obtain ⟨a, b, kd', t1, r1, e1, g1⟩ := make_from (kd := kd) (ds := ds) (s := s) (K := 1) ws hf.wf hm hF hp (by omega) hs hfree
  obtain ⟨f1, l1⟩ := t1.fine hf
  obtain ⟨ws', hws⟩ : ∃ ws', (fill0 ws a b).set a (putH k c l false) = ws' := ⟨_, rfl⟩
  have hat : At kd' ws' (a : Nat) a b k c l false := by rw [← hws]; exact MakeT.at hf.wf hf.len hm r1 e1
  have hold : ∀ (p m : Nat) (k c l : Int) (f : Bool), At kd ws (p : Nat) p m k c l f → At kd' ws' (p : Nat) p m k c l f := fun p m k c l f h => by rw [← hws]; exact (h.made hf.wf hf.len r1 e1).1
  have hnew : ∀ j, j < n → A j ≠ a := fun j hj e => by
    obtain ⟨m, hm⟩ := h.objs j hj
    obtain ⟨_, _, _, _, h5, _⟩ := hm.facts hf.wf
    obtain ⟨_, _, _, _, h5', _⟩ := hat.facts f1.wf
    have := (hm.made (x := putH k c l false) hf.wf hf.len r1 e1).2
    omega
  have hall : ∀ x, isAt kd' x = true → x = (a : Int) ∨ isAt kd x = true := fun x e => by
    obtain ⟨b', hb', _, _, _, _, _, _, h7⟩ := r1.spec hf.wf
    unfold isAt at e ⊢
    unfold findI at e ⊢
    by_cases h0 : x < 0
    · rw [if_pos h0] at e; cases e
    · rw [if_neg h0] at e ⊢
      rw [h7 x.toNat] at e
      by_cases hin : a ≤ x.toNat ∧ x.toNat < a + b'
      · rw [if_pos hin] at e
        simp at e
        exact .inl e.symm
      · rw [if_neg hin] at e
        exact .inr e
  rw [hws] at t1 f1
  refine ⟨a, ws', kd', t1, f1, fun j hj => ?_, fun i j hi hj e => ?_, fun x e => ?_⟩
  · show ∃ m : Nat, At kd' ws' ((if j < n then A j else a : Nat) : Int) (if j < n then A j else a) m (if j < n then kk j else k) (if j < n then cc j else c) (if j < n then ll j else l) false
    rcases Nat.lt_or_ge j n with hjn | hjn
    · rw [if_pos hjn, if_pos hjn, if_pos hjn, if_pos hjn]
      obtain ⟨m, hm⟩ := h.objs j hjn
      exact ⟨m, hold _ _ _ _ _ _ hm⟩
    · rw [if_neg (by omega), if_neg (by omega), if_neg (by omega), if_neg (by omega)]
      exact ⟨b, hat⟩
  · have e' : (if i < n then A i else a) = (if j < n then A j else a) := e
    rcases Nat.lt_or_ge i n with h1 | h1
    · rcases Nat.lt_or_ge j n with h2 | h2
      · rw [if_pos h1, if_pos h2] at e'; exact h.ne i j h1 h2 e'
      · rw [if_pos h1, if_neg (by omega)] at e'; exact absurd e' (hnew i h1)
    · rcases Nat.lt_or_ge j n with h2 | h2
      · rw [if_neg (by omega), if_pos h2] at e'; exact absurd e'.symm (hnew j h2)
      · omega
  · rcases hall x e with e | e
    · exact ⟨n, by omega, by show x = ((if n < n then A n else a : Nat) : Int); rw [if_neg (by omega)]; exact e⟩
    · obtain ⟨j, hj, hx⟩ := h.all x e
      exact ⟨j, by omega, by show x = ((if j < n then A j else a : Nat) : Int); rw [if_pos hj]; exact hx⟩
end
theorem set_self (xs : List Int) (i : Nat) (x : Int) (h : i < xs.length) (e : xs[i]?.getD 0 = x) : xs.set i x = xs := by
  rw [List.getElem?_eq_getElem h] at e
  simp at e
  subst e
  exact List.set_getElem_self h
theorem nodup_le {L M : List Int} (h : L.Nodup) (hs : ∀ x, x ∈ L → x ∈ M) : L.length ≤ M.length := by
  induction L generalizing M with
  | nil => simp
  | cons a L ih =>
    have ha : a ∈ M := hs a (by simp)
    rw [List.nodup_cons] at h
    have := ih (M := M.erase a) h.2 (fun x hx => (List.mem_erase_of_ne (fun e => h.1 (by rw [← e]; exact hx))).2 (hs x (by simp [hx])))
    rw [List.length_erase_of_mem ha] at this
    have h0 : 0 < M.length := List.length_pos_of_mem ha
    simp only [List.length_cons]
    omega
theorem nodup_same {L M : List Int} (h : L.Nodup) (g : M.Nodup) (hs : ∀ x, x ∈ L ↔ x ∈ M) : L.length = M.length := Nat.le_antisymm (nodup_le h (fun x e => (hs x).1 e)) (nodup_le g (fun x e => (hs x).2 e))
theorem marksL_mem (xs : List Bool) (x : Int) : x ∈ marksL xs ↔ onM xs x = true := by
  unfold marksL
  rw [List.mem_map]
  constructor
  · rintro ⟨a, ha, rfl⟩
    rw [List.mem_filter] at ha
    show onM xs ((a : Nat) : Int) = true
    rw [onM_nat]; exact ha.2
  · intro h
    obtain ⟨h0, h1⟩ := onM_lt h
    obtain ⟨k, rfl⟩ := Int.eq_ofNat_of_zero_le h0
    refine ⟨k, ?_, rfl⟩
    rw [List.mem_filter, List.mem_range]
    rw [onM_nat] at h
    exact ⟨by simpa using h1, h⟩
theorem marksL_nodup (xs : List Bool) : (marksL xs).Nodup := by
  unfold marksL
  refine List.Pairwise.map _ (fun a b h e => h ?_) ((List.nodup_range).filter _)
  exact Int.ofNat.inj e

end Go.Proofs.YtgpidokklhjfdaaGreat
