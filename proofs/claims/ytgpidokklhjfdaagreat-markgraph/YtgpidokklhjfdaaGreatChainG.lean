/-
  Objects made one behind the other in a fresh heap of so many pages whose classes are told, and their fields put. Plain facts.
-/
import Derived.Test.YtgpidokklhjfdaaGreatRefM
namespace Go.Proofs.YtgpidokklhjfdaaGreat
open Go.RowKit

theorem Fine.freshD (P : Nat) (ds : List (Int × List Int)) (h1 : 1 ≤ P) (h2 : P ≤ 256) (hd : ds.length ≤ 256) : Fine (zeros (64 * P)) (freshK P) ds := by
  have h := Fine.fresh P h1 h2
  refine ⟨h.wf, ⟨fun a m e => ?_, h.ob.bd⟩, hd, h.len⟩
  obtain ⟨k, c, l, f, g1, g2, g3⟩ := h.ob.head a m e
  exact ⟨k, c, l, f, g1, g2, fun e => by obtain ⟨i, L, _, e2⟩ := g3 e; simp at e2⟩
theorem fresh_noat (P : Nat) (hP : 1 ≤ P) (x : Int) : isAt (freshK P) x = false := by
  refine isAt_no (fun s n e => ?_)
  unfold findI at e
  split at e
  · cases e
  · rw [freshK_find P _ hP] at e; cases e

/-- The objects of a heap, one by one: no others are there. -/
structure OT (kd : List PK) (ws : List Int) (ds : List (Int × List Int)) (n : Nat) (A : Nat → Nat) (kk cc ll : Nat → Int) : Prop where
  fine : Fine ws kd ds
  objs : ∀ j, j < n → ∃ m : Nat, At kd ws (A j : Nat) (A j) m (kk j) (cc j) (ll j) false
  ne : ∀ i j, i < n → j < n → A i = A j → i = j
  all : ∀ x, isAt kd x = true → ∃ j, j < n ∧ x = (A j : Int)
/-- Objects made one behind the other. -/
structure PChain (P : Nat) (ds : List (Int × List Int)) (n : Nat) (kk cc ll : Nat → Int) (W : Nat → List Int) (K : Nat → List PK) (A : Nat → Nat) : Prop where
  w0 : W 0 = zeros (64 * P)
  k0 : K 0 = freshK P
  step : ∀ i, i < n → MakeT (K i) (W i) ds (kk i) (cc i) (ll i) false (A i : Int) 0 (W (i + 1)) (K (i + 1))
  ot : ∀ i, i ≤ n → OT (K i) (W i) ds i A kk cc ll
  free : ∀ i, i ≤ n → (K i).length = P ∧ FreeFrom (K i) (1 + i)
theorem pchain_ex (P : Nat) (ds : List (Int × List Int)) (kk cc ll : Nat → Int) (hP : 1 ≤ P) (hP2 : P ≤ 256) (hd : ds.length ≤ 256) (n : Nat) (hn : n + 1 ≤ P) (hk : ∀ i, i < n → mayH (kk i) (cc i) (ll i) false = true ∧ FitsT ds (kk i) (cc i) (ll i) 0 ∧ pagesI (ll i + 1) ≤ (1 : Nat)) : ∃ W K A, PChain P ds n kk cc ll W K A := by
  induction n with
  | zero =>
    refine ⟨fun _ => zeros (64 * P), fun _ => freshK P, fun _ => 0, rfl, rfl, fun i h => by omega, fun i h => ⟨Fine.freshD P ds hP hP2 hd, fun j hj => by omega, fun i j hi => by omega, fun x e => by rw [fresh_noat P hP x] at e; cases e⟩, fun i h => ⟨freshK_length P, (FreeFrom.fresh P hP).mono (by omega)⟩⟩
  | succ n ih =>
    obtain ⟨W, K, A, hC⟩ := ih (by omega) (fun i hi => hk i (by omega))
    have hO := hC.ot n (Nat.le_refl _)
    have hf := hO.fine
    obtain ⟨hkP, hfree⟩ := hC.free n (Nat.le_refl _)
    obtain ⟨hm, hF, hpg⟩ := hk n (by omega)
    obtain ⟨a, b, kd', t1, r1, e1, g1⟩ := make_from (kd := K n) (ds := ds) (s := 1 + n) (K := 1) (W n) hf.wf hm hF hpg (by omega) (by rw [hkP]; omega) hfree
    obtain ⟨f1, l1⟩ := t1.fine hf
    obtain ⟨ws', hws⟩ : ∃ ws', (fill0 (W n) a b).set a (putH (kk n) (cc n) (ll n) false) = ws' := ⟨_, rfl⟩
    have hat : At kd' ws' (a : Nat) a b (kk n) (cc n) (ll n) false := by rw [← hws]; exact MakeT.at hf.wf hf.len hm r1 e1
    have hold : ∀ (p m : Nat) (k c l : Int) (f : Bool), At (K n) (W n) (p : Nat) p m k c l f → At kd' ws' (p : Nat) p m k c l f := fun p m k c l f h => by rw [← hws]; exact (h.made hf.wf hf.len r1 e1).1
    have hnew : ∀ j, j < n → A j ≠ a := fun j hj e => by
      obtain ⟨m, hm⟩ := hO.objs j hj
      obtain ⟨_, _, _, _, h5, _⟩ := hm.facts hf.wf
      obtain ⟨_, _, _, _, h5', _⟩ := hat.facts f1.wf
      have := (hm.made (x := putH (kk n) (cc n) (ll n) false) hf.wf hf.len r1 e1).2
      omega
    have hall : ∀ x, isAt kd' x = true → x = (a : Int) ∨ isAt (K n) x = true := fun x e => by
      obtain ⟨b', hb', _, _, _, _, _, _, h7⟩ := r1.spec hf.wf
      unfold isAt at e ⊢
      unfold findI at e ⊢
      by_cases h0 : x < 0
      · rw [if_pos h0] at e; cases e
      · rw [if_neg h0] at e ⊢
        rw [h7 x.toNat] at e
        by_cases hin : a ≤ x.toNat ∧ x.toNat < a + b'
        · rw [if_pos hin] at e
          simp at e
          exact .inl e.symm
        · rw [if_neg hin] at e
          exact .inr e
    rw [hws] at t1 f1
    refine ⟨fun i => if i ≤ n then W i else ws', fun i => if i ≤ n then K i else kd', fun i => if i < n then A i else a, hC.w0, hC.k0, ?_, ?_, ?_⟩
    · intro i hi
      show MakeT (if i ≤ n then K i else kd') (if i ≤ n then W i else ws') ds (kk i) (cc i) (ll i) false ((if i < n then A i else a : Nat) : Int) 0 (if i + 1 ≤ n then W (i + 1) else ws') (if i + 1 ≤ n then K (i + 1) else kd')
      rcases Nat.lt_or_ge i n with h | h
      · rw [if_pos (by omega), if_pos (by omega), if_pos h, if_pos (by omega), if_pos (by omega)]
        exact hC.step i h
      · obtain rfl : i = n := by omega
        rw [if_pos (by omega), if_pos (by omega), if_neg (by omega), if_neg (by omega), if_neg (by omega)]
        exact t1
    · intro i hi
      show OT (if i ≤ n then K i else kd') (if i ≤ n then W i else ws') ds i (fun i => if i < n then A i else a) kk cc ll
      rcases Nat.lt_or_ge n i with h | h
      · obtain rfl : i = n + 1 := by omega
        rw [if_neg (by omega), if_neg (by omega)]
        refine ⟨f1, fun j hj => ?_, fun i j hi hj e => ?_, fun x e => ?_⟩
        · show ∃ m : Nat, At kd' ws' ((if j < n then A j else a : Nat) : Int) (if j < n then A j else a) m (kk j) (cc j) (ll j) false
          rcases Nat.lt_or_ge j n with hjn | hjn
          · rw [if_pos hjn]
            obtain ⟨m, hm⟩ := hO.objs j hjn
            exact ⟨m, hold _ _ _ _ _ _ hm⟩
          · obtain rfl : j = n := by omega
            rw [if_neg (by omega)]
            exact ⟨b, hat⟩
        · have e' : (if i < n then A i else a) = (if j < n then A j else a) := e
          rcases Nat.lt_or_ge i n with h1 | h1
          · rcases Nat.lt_or_ge j n with h2 | h2
            · rw [if_pos h1, if_pos h2] at e'; exact hO.ne i j h1 h2 e'
            · rw [if_pos h1, if_neg (by omega)] at e'; exact absurd e' (hnew i h1)
          · rcases Nat.lt_or_ge j n with h2 | h2
            · rw [if_neg (by omega), if_pos h2] at e'; exact absurd e'.symm (hnew j h2)
            · omega
        · rcases hall x e with e | e
          · exact ⟨n, by omega, by show x = ((if n < n then A n else a : Nat) : Int); rw [if_neg (by omega)]; exact e⟩
          · obtain ⟨j, hj, hx⟩ := hO.all x e
            exact ⟨j, by omega, by show x = ((if j < n then A j else a : Nat) : Int); rw [if_pos hj]; exact hx⟩
      · rw [if_pos h, if_pos h]
        have hq := hC.ot i h
        refine ⟨hq.fine, fun j hj => ?_, fun p q hp hq' e => ?_, fun x e => ?_⟩
        · show ∃ m : Nat, At _ _ ((if j < n then A j else a : Nat) : Int) (if j < n then A j else a) m (kk j) (cc j) (ll j) false
          rw [if_pos (by omega)]; exact hq.objs j hj
        · have e' : (if p < n then A p else a) = (if q < n then A q else a) := e
          rw [if_pos (by omega), if_pos (by omega)] at e'; exact hq.ne p q hp hq' e'
        · obtain ⟨j, hj, hx⟩ := hq.all x e
          exact ⟨j, hj, by show x = ((if j < n then A j else a : Nat) : Int); rw [if_pos (by omega)]; exact hx⟩
    · intro i hi
      show (if i ≤ n then K i else kd').length = P ∧ FreeFrom (if i ≤ n then K i else kd') (1 + i)
      rcases Nat.lt_or_ge n i with h | h
      · obtain rfl : i = n + 1 := by omega
        rw [if_neg (by omega)]
        exact ⟨by rw [l1, hkP], g1.mono (by omega)⟩
      · rw [if_pos h]; exact hC.free i h

section
variable {kd : List PK} {ws : List Int} {ds : List (Int × List Int)} {n : Nat} {A : Nat → Nat} {kk cc ll : Nat → Int}
theorem OT.bd (h : OT kd ws ds n A kk cc ll) (j : Nat) (hj : j < n) : 64 ≤ A j ∧ A j < ws.length ∧ ws.length ≤ 16384 := by
  obtain ⟨m, hm⟩ := h.objs j hj
  have h1 := hm.facts h.fine.wf
  have h2 := h.fine.len
  omega
theorem OT.atI (h : OT kd ws ds n A kk cc ll) (j : Nat) (hj : j < n) : isAt kd (A j : Int) = true := by
  obtain ⟨m, hm⟩ := h.objs j hj
  exact isAt_yes hm
theorem OT.inner (h : OT kd ws ds n A kk cc ll) (j t : Nat) (hj : j < n) (ht : (t : Int) < ll j) : Inner kd (A j + 1 + t) := by
  obtain ⟨m, hm⟩ := h.objs j hj
  have h1 := at_room h.fine hm
  exact ⟨A j, m, hm.2.1, by omega, by omega⟩
/-- A field is put. -/
theorem OT.put (h : OT kd ws ds n A kk cc ll) (j t : Nat) (hj : j < n) (ht : (t : Int) < ll j) (x : Int) (hx : inI x) : PutT kd ws (A j) t x 0 (ws.set (A j + 1 + t) x) ∧ OT kd (ws.set (A j + 1 + t) x) ds n A kk cc ll := by
  have hi := h.inner j t hj ht
  obtain ⟨m, hm⟩ := h.objs j hj
  have h1 := at_room h.fine hm
  refine ⟨.yes (A j + 1 + t) (.yes (A j) m t (kk j) (cc j) (ll j) false hm rfl ht h1) (hi.lt h.fine), hi.fine h.fine hx, fun i hi' => ?_, h.ne, h.all⟩
  obtain ⟨m', hm'⟩ := h.objs i hi'
  exact ⟨m', (hi.at' h.fine.wf).2 hm'⟩
end

/-- The first k places from p on are those of Z. -/
def putsK (ws : List Int) (p : Nat) (Z : List Int) : Nat → List Int
  | 0 => ws
  | k + 1 => (putsK ws p Z k).set (p + k) (Z[k]?.getD 0)
theorem putsK_length (ws : List Int) (p : Nat) (Z : List Int) (k : Nat) : (putsK ws p Z k).length = ws.length := by
  induction k with
  | zero => rfl
  | succ k ih => show ((putsK ws p Z k).set _ _).length = _; rw [List.length_set, ih]
section
variable {kd : List PK} {ws : List Int} {ds : List (Int × List Int)} {n : Nat} {A : Nat → Nat} {kk cc ll : Nat → Int}
theorem OT.puts (h : OT kd ws ds n A kk cc ll) (j : Nat) (hj : j < n) (Z : List Int) (hZ : ∀ t : Nat, inI (Z[t]?.getD 0)) (k : Nat) (hk : (k : Int) ≤ ll j) : OT kd (putsK ws (A j + 1) Z k) ds n A kk cc ll := by
  induction k with
  | zero => exact h
  | succ k ih => exact ((ih (by omega)).put j k hj (by omega) _ (hZ k)).2
theorem OT.putsT (h : OT kd ws ds n A kk cc ll) (j : Nat) (hj : j < n) (Z : List Int) (hZ : ∀ t : Nat, inI (Z[t]?.getD 0)) (k : Nat) (hk : ((k + 1 : Nat) : Int) ≤ ll j) : PutT kd (putsK ws (A j + 1) Z k) (A j) k (Z[k]?.getD 0) 0 (putsK ws (A j + 1) Z (k + 1)) :=
  ((h.puts j hj Z hZ k (by omega)).put j k hj (by omega) _ (hZ k)).1
end
/-- The fields of the first objects are put. -/
def phW (W0 : List Int) (A : Nat → Nat) (Zs : Nat → List Int) : Nat → List Int
  | 0 => W0
  | i + 1 => putsK (phW W0 A Zs i) (A i + 1) (Zs i) (Zs i).length
theorem OT.phase {kd : List PK} {ws : List Int} {ds : List (Int × List Int)} {n : Nat} {A : Nat → Nat} {kk cc ll : Nat → Int} (h : OT kd ws ds n A kk cc ll) (Zs : Nat → List Int) (hZ : ∀ i, i < n → ((Zs i).length : Int) ≤ ll i ∧ ∀ t : Nat, inI ((Zs i)[t]?.getD 0)) (i : Nat) (hi : i ≤ n) : OT kd (phW ws A Zs i) ds n A kk cc ll := by
  induction i with
  | zero => exact h
  | succ i ih => exact (ih (by omega)).puts i (by omega) _ (hZ i (by omega)).2 _ (hZ i (by omega)).1

end Go.Proofs.YtgpidokklhjfdaaGreat
