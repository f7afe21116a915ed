/-
  References made one behind the other in a heap that is new: what there is then. Plain facts.
-/
import Derived.Test.YtgpidokklhjfdaaGreatPart7
namespace Go.Proofs.YtgpidokklhjfdaaGreat
open Go.RowKit

/-- The first n references: words, pages and addresses, one by one. -/
structure Chain (n : Nat) (W : Nat → List Int) (K : Nat → List PK) (A : Nat → Nat) : Prop where
  w0 : W 0 = zeros (64 * 40)
  k0 : K 0 = freshK 40
  step : ∀ i, i < n → MakeT (K i) (W i) [] 4 (1 + ((i % 3 : Nat) : Int)) 5 false (A i : Int) 0 (W (i + 1)) (K (i + 1))
  fine : ∀ i, i ≤ n → Fine (W i) (K i) [] ∧ (K i).length = 40 ∧ FreeFrom (K i) (1 + i)
  refs : ∀ i, i ≤ n → ∀ j, j < i → ∃ (m : Nat) (c : Int), At (K i) (W i) (A j : Nat) (A j) m 4 c 5 false
  only : ∀ i, i ≤ n → ∀ (a : Int) (b m : Nat) (k c l : Int) (f : Bool), At (K i) (W i) a b m k c l f → ∃ j, j < i ∧ a = (A j : Int)
  ne : ∀ i j, i < n → j < i → A i ≠ A j

theorem may_ref3 (i : Nat) : mayH 4 (1 + ((i % 3 : Nat) : Int)) 5 false = true := by
  rw [mayH_4, inB_yes (by omega) (by omega), inB_yes (by omega) (by omega)]; rfl
theorem pages6 : pagesI (5 + 1) ≤ (1 : Nat) := by decide
theorem chain_ex (n : Nat) (hn : n ≤ 30) : ∃ W K A, Chain n W K A := by
  induction n with
  | zero =>
    refine ⟨fun _ => zeros (64 * 40), fun _ => freshK 40, fun _ => 0, rfl, rfl, fun i h => by omega, fun i h => ⟨Fine.fresh 40 (by omega) (by omega), freshK_length 40, ?_⟩, fun i h j hj => by omega, fun i h a b m k c l f hA => ?_, fun i j h => by omega⟩
    · exact (FreeFrom.fresh 40 (by omega)).mono (by omega)
    · have := hA.2.1
      rw [freshK_find 40 _ (by omega)] at this
      cases this
  | succ n ih =>
    obtain ⟨W, K, A, hC⟩ := ih (by omega)
    obtain ⟨hf, hk, hfree⟩ := hC.fine n (Nat.le_refl _)
    obtain ⟨a, b, kd', t1, r1, e1, g1⟩ := make_from (kd := K n) (ds := []) (s := 1 + n) (K := 1) (W n) hf.wf (may_ref3 n) (.other (by omega)) pages6 (by omega) (by rw [hk]; omega) hfree
    obtain ⟨f1, l1⟩ := t1.fine hf
    obtain ⟨ws', hws⟩ : ∃ ws', (fill0 (W n) a b).set a (putH 4 (1 + ((n % 3 : Nat) : Int)) 5 false) = ws' := ⟨_, rfl⟩
    have hat : At kd' ws' (a : Nat) a b 4 (1 + ((n % 3 : Nat) : Int)) 5 false := by rw [← hws]; exact MakeT.at hf.wf hf.len (may_ref3 n) r1 e1
    have hold : ∀ (p m : Nat) (k c l : Int) (f : Bool), At (K n) (W n) (p : Nat) p m k c l f → At kd' ws' (p : Nat) p m k c l f ∧ (p + m ≤ a ∨ a + b ≤ p) := fun p m k c l f h => by rw [← hws]; exact h.made hf.wf hf.len r1 e1
    obtain ⟨b', hb', h1, h2, h3, h4, h5, h6, h7⟩ := r1.spec hf.wf
    obtain rfl : b = b' := by rw [e1] at hb'; omega
    rw [hws] at t1 f1
    have hnew : ∀ (x : Int) (p m : Nat) (k c l : Int) (f : Bool), At kd' ws' x p m k c l f → x = (a : Int) ∨ At (K n) (W n) x p m k c l f := by
      rintro x p m k c l f ⟨q1, q2, q3⟩
      rw [h7 p] at q2
      split at q2
      · left; cases q2; exact q1
      · right
        refine ⟨q1, q2, ?_⟩
        rw [← hws, set_get_other _ _ _ _ (by omega), fill0_get _ _ _ _ (by have := hf.len; omega), if_neg (by assumption)] at q3
        exact q3
    have hW : ∀ i, i ≤ n → (if i ≤ n then W i else ws') = W i := fun i h => if_pos h
    have hK : ∀ i, i ≤ n → (if i ≤ n then K i else kd') = K i := fun i h => if_pos h
    have hA : ∀ i, i < n → (if i < n then A i else a) = A i := fun i h => if_pos h
    refine ⟨fun i => if i ≤ n then W i else ws', fun i => if i ≤ n then K i else kd', fun i => if i < n then A i else a, ?_, ?_, ?_, ?_, ?_, ?_, ?_⟩
    · exact hC.w0
    · exact hC.k0
    · intro i hi
      show MakeT (if i ≤ n then K i else kd') (if i ≤ n then W i else ws') [] 4 _ 5 false ((if i < n then A i else a : Nat) : Int) 0 (if i + 1 ≤ n then W (i + 1) else ws') (if i + 1 ≤ n then K (i + 1) else kd')
      rcases Nat.lt_or_ge i n with h | h
      · rw [hW i (by omega), hK i (by omega), hA i h, hW (i + 1) (by omega), hK (i + 1) (by omega)]
        exact hC.step i h
      · obtain rfl : i = n := by omega
        rw [hW i (by omega), hK i (by omega), if_neg (by omega), if_neg (by omega), if_neg (by omega)]
        exact t1
    · intro i hi
      show Fine (if i ≤ n then W i else ws') (if i ≤ n then K i else kd') [] ∧ (if i ≤ n then K i else kd').length = 40 ∧ FreeFrom (if i ≤ n then K i else kd') (1 + i)
      rcases Nat.lt_or_ge n i with h | h
      · obtain rfl : i = n + 1 := by omega
        rw [if_neg (by omega), if_neg (by omega)]
        exact ⟨f1, by rw [l1, hk], g1.mono (by omega)⟩
      · rw [hW i h, hK i h]
        exact hC.fine i h
    · intro i hi j hj
      show ∃ (m : Nat) (c : Int), At (if i ≤ n then K i else kd') (if i ≤ n then W i else ws') ((if j < n then A j else a : Nat) : Int) (if j < n then A j else a) m 4 c 5 false
      rcases Nat.lt_or_ge n i with h | h
      · obtain rfl : i = n + 1 := by omega
        rw [if_neg (by omega), if_neg (by omega)]
        rcases Nat.lt_or_ge j n with hjn | hjn
        · rw [hA j hjn]
          obtain ⟨m, c, hm⟩ := hC.refs n (Nat.le_refl _) j hjn
          exact ⟨m, c, (hold _ _ _ _ _ _ hm).1⟩
        · rw [if_neg (by omega)]
          exact ⟨b, _, hat⟩
      · rw [hW i h, hK i h, hA j (by omega)]
        exact hC.refs i h j hj
    · intro i hi x p m k c l f hx
      have hx' : At (if i ≤ n then K i else kd') (if i ≤ n then W i else ws') x p m k c l f := hx
      show ∃ j, j < i ∧ x = ((if j < n then A j else a : Nat) : Int)
      rcases Nat.lt_or_ge n i with h | h
      · obtain rfl : i = n + 1 := by omega
        rw [if_neg (by omega), if_neg (by omega)] at hx'
        rcases hnew _ _ _ _ _ _ _ hx' with e | e
        · exact ⟨n, by omega, by rw [if_neg (by omega)]; exact e⟩
        · obtain ⟨j, hj, e2⟩ := hC.only n (Nat.le_refl _) _ _ _ _ _ _ _ e
          exact ⟨j, by omega, by rw [hA j hj]; exact e2⟩
      · rw [hW i h, hK i h] at hx'
        obtain ⟨j, hj, e2⟩ := hC.only i h _ _ _ _ _ _ _ hx'
        exact ⟨j, hj, by rw [hA j (by omega)]; exact e2⟩
    · intro i j hi hj
      show (if i < n then A i else a) ≠ (if j < n then A j else a)
      rw [hA j (by omega)]
      rcases Nat.lt_or_ge i n with h | h
      · rw [hA i h]; exact hC.ne i j h hj
      · obtain rfl : i = n := by omega
        rw [if_neg (by omega)]
        obtain ⟨m, c, hm⟩ := hC.refs i (Nat.le_refl _) j hj
        have h8 := (hold _ _ _ _ _ _ hm).2
        have h9 := hm.facts hf.wf
        intro e
        rw [e] at h8
        omega
/-- The addresses. -/
def aL (A : Nat → Nat) (n : Nat) : List Int := (List.range n).map (fun i => (A i : Int))
theorem aL_length (A : Nat → Nat) (n : Nat) : (aL A n).length = n := by simp [aL]
theorem aL_get (A : Nat → Nat) (n i : Nat) (h : i < n) : (aL A n)[i]?.getD 0 = (A i : Int) := by simp [aL, h]
theorem aL_snoc (A : Nat → Nat) (n : Nat) : aL A (n + 1) = aL A n ++ [(A n : Int)] := by simp [aL, List.range_succ]
theorem Chain.bd {n : Nat} {W : Nat → List Int} {K : Nat → List PK} {A : Nat → Nat} (h : Chain n W K A) (j : Nat) (hj : j < n) : 64 ≤ A j ∧ A j ≤ 2560 := by
  obtain ⟨m, c, hm⟩ := h.refs n (Nat.le_refl _) j hj
  obtain ⟨hf, hk, _⟩ := h.fine n (Nat.le_refl _)
  have := hm.facts hf.wf
  omega
theorem Chain.aBd {n : Nat} {W : Nat → List Int} {K : Nat → List PK} {A : Nat → Nat} (h : Chain n W K A) (q : Nat) (hq : q ≤ n) : ∀ i : Nat, -9223372036854775808 ≤ (aL A q)[i]?.getD 0 ∧ (aL A q)[i]?.getD 0 ≤ 9223372036854775807 := by
  intro i
  by_cases hi : i < q
  · rw [aL_get A q i hi]; have := h.bd i (by omega); omega
  · rw [List.getElem?_eq_none (by rw [aL_length]; omega)]; simp

end Go.Proofs.YtgpidokklhjfdaaGreat
