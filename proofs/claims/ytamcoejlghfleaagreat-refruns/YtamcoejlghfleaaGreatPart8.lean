/-
  Contracts of what the statement calls, one text behind the other (ChainM, QueueM, RefM, FRef, Ref, ListA, Ref2, RegionLast, RefsPush, RefsPoll).
-/
import Derived.Test.YtamcoejlghfleaaGreatPart7
import Derived.Test.YtamcoejlghfleaaGreatPart4
import Derived.Test.YtamcoejlghfleaaGreatPart6
import Derived.Deep.CutRange
import Derived.Test.YtamcoejlghfleaaGreatPart1
import Derived.Test.YtamcoejlghfleaaGreatPart2
import Derived.OrdersHeld
import Derived.Deep.RegionHeld

/-
  References made one behind the other in a heap that is new: what there is then. Plain facts.
-/
namespace Go.Proofs.YtamcoejlghfleaaGreat
open Go.RowKit

/-- The first n references: words, pages and addresses, one by one. -/
structure Chain (n : Nat) (W : Nat → List Int) (K : Nat → List PK) (A : Nat → Nat) : Prop where
  w0 : W 0 = zeros (64 * 40)
  k0 : K 0 = freshK 40
  step : ∀ i, i < n → MakeT (K i) (W i) [] 4 (1 + ((i % 3 : Nat) : Int)) 5 false (A i : Int) 0 (W (i + 1)) (K (i + 1))
  fine : ∀ i, i ≤ n → Fine (W i) (K i) [] ∧ (K i).length = 40 ∧ FreeFrom (K i) (1 + i)
  refs : ∀ i, i ≤ n → ∀ j, j < i → ∃ (m : Nat) (c : Int), At (K i) (W i) (A j : Nat) (A j) m 4 c 5 false
  only : ∀ i, i ≤ n → ∀ (a : Int) (b m : Nat) (k c l : Int) (f : Bool), At (K i) (W i) a b m k c l f → ∃ j, j < i ∧ a = (A j : Int)
  ne : ∀ i j, i < n → j < i → A i ≠ A j

theorem may_ref3 (i : Nat) : mayH 4 (1 + ((i % 3 : Nat) : Int)) 5 false = true := by
  rw [mayH_4, inB_yes (by omega) (by omega), inB_yes (by omega) (by omega)]; rfl
theorem pages6 : pagesI (5 + 1) ≤ (1 : Nat) := by decide
theorem chain_ex (n : Nat) (hn : n ≤ 30) : ∃ W K A, Chain n W K A := by
  induction n with
  | zero =>
    refine ⟨fun _ => zeros (64 * 40), fun _ => freshK 40, fun _ => 0, rfl, rfl, fun i h => by omega, fun i h => ⟨Fine.fresh 40 (by omega) (by omega), freshK_length 40, ?_⟩, fun i h j hj => by omega, fun i h a b m k c l f hA => ?_, fun i j h => by omega⟩
    · exact (FreeFrom.fresh 40 (by omega)).mono (by omega)
    · have := hA.2.1
      rw [freshK_find 40 _ (by omega)] at this
      cases this
  | succ n ih =>
    obtain ⟨W, K, A, hC⟩ := ih (by omega)
    obtain ⟨hf, hk, hfree⟩ := hC.fine n (Nat.le_refl _)
    obtain ⟨a, b, kd', t1, r1, e1, g1⟩ := make_from (kd := K n) (ds := []) (s := 1 + n) (K := 1) (W n) hf.wf (may_ref3 n) (.other (by omega)) pages6 (by omega) (by rw [hk]; omega) hfree
    obtain ⟨f1, l1⟩ := t1.fine hf
    obtain ⟨ws', hws⟩ : ∃ ws', (fill0 (W n) a b).set a (putH 4 (1 + ((n % 3 : Nat) : Int)) 5 false) = ws' := ⟨_, rfl⟩
    have hat : At kd' ws' (a : Nat) a b 4 (1 + ((n % 3 : Nat) : Int)) 5 false := by rw [← hws]; exact MakeT.at hf.wf hf.len (may_ref3 n) r1 e1
    have hold : ∀ (p m : Nat) (k c l : Int) (f : Bool), At (K n) (W n) (p : Nat) p m k c l f → At kd' ws' (p : Nat) p m k c l f ∧ (p + m ≤ a ∨ a + b ≤ p) := fun p m k c l f h => by rw [← hws]; exact h.made hf.wf hf.len r1 e1
    obtain ⟨b', hb', h1, h2, h3, h4, h5, h6, h7⟩ := r1.spec hf.wf
    obtain rfl : b = b' := by rw [e1] at hb'; omega
    rw [hws] at t1 f1
    have hnew : ∀ (x : Int) (p m : Nat) (k c l : Int) (f : Bool), At kd' ws' x p m k c l f → x = (a : Int) ∨ At (K n) (W n) x p m k c l f := by
      rintro x p m k c l f ⟨q1, q2, q3⟩
      rw [h7 p] at q2
      split at q2
      · left; cases q2; exact q1
      · right
        refine ⟨q1, q2, ?_⟩
        rw [← hws, set_get_other _ _ _ _ (by omega), fill0_get _ _ _ _ (by have := hf.len; omega), if_neg (by assumption)] at q3
        exact q3
    have hW : ∀ i, i ≤ n → (if i ≤ n then W i else ws') = W i := fun i h => if_pos h
    have hK : ∀ i, i ≤ n → (if i ≤ n then K i else kd') = K i := fun i h => if_pos h
    have hA : ∀ i, i < n → (if i < n then A i else a) = A i := fun i h => if_pos h
    refine ⟨fun i => if i ≤ n then W i else ws', fun i => if i ≤ n then K i else kd', fun i => if i < n then A i else a, ?_, ?_, ?_, ?_, ?_, ?_, ?_⟩
    · exact hC.w0
    · exact hC.k0
    · intro i hi
      show MakeT (if i ≤ n then K i else kd') (if i ≤ n then W i else ws') [] 4 _ 5 false ((if i < n then A i else a : Nat) : Int) 0 (if i + 1 ≤ n then W (i + 1) else ws') (if i + 1 ≤ n then K (i + 1) else kd')
      rcases Nat.lt_or_ge i n with h | h
      · rw [hW i (by omega), hK i (by omega), hA i h, hW (i + 1) (by omega), hK (i + 1) (by omega)]
        exact hC.step i h
      · obtain rfl : i = n := by omega
        rw [hW i (by omega), hK i (by omega), if_neg (by omega), if_neg (by omega), if_neg (by omega)]
        exact t1
    · intro i hi
      show Fine (if i ≤ n then W i else ws') (if i ≤ n then K i else kd') [] ∧ (if i ≤ n then K i else kd').length = 40 ∧ FreeFrom (if i ≤ n then K i else kd') (1 + i)
      rcases Nat.lt_or_ge n i with h | h
      · obtain rfl : i = n + 1 := by omega
        rw [if_neg (by omega), if_neg (by omega)]
        exact ⟨f1, by rw [l1, hk], g1.mono (by omega)⟩
      · rw [hW i h, hK i h]
        exact hC.fine i h
    · intro i hi j hj
      show ∃ (m : Nat) (c : Int), At (if i ≤ n then K i else kd') (if i ≤ n then W i else ws') ((if j < n then A j else a : Nat) : Int) (if j < n then A j else a) m 4 c 5 false
      rcases Nat.lt_or_ge n i with h | h
      · obtain rfl : i = n + 1 := by omega
        rw [if_neg (by omega), if_neg (by omega)]
        rcases Nat.lt_or_ge j n with hjn | hjn
        · rw [hA j hjn]
          obtain ⟨m, c, hm⟩ := hC.refs n (Nat.le_refl _) j hjn
          exact ⟨m, c, (hold _ _ _ _ _ _ hm).1⟩
        · rw [if_neg (by omega)]
          exact ⟨b, _, hat⟩
      · rw [hW i h, hK i h, hA j (by omega)]
        exact hC.refs i h j hj
    · intro i hi x p m k c l f hx
      have hx' : At (if i ≤ n then K i else kd') (if i ≤ n then W i else ws') x p m k c l f := hx
      show ∃ j, j < i ∧ x = ((if j < n then A j else a : Nat) : Int)
      rcases Nat.lt_or_ge n i with h | h
      · obtain rfl : i = n + 1 := by omega
        rw [if_neg (by omega), if_neg (by omega)] at hx'
        rcases hnew _ _ _ _ _ _ _ hx' with e | e
        · exact ⟨n, by omega, by rw [if_neg (by omega)]; exact e⟩
        · obtain ⟨j, hj, e2⟩ := hC.only n (Nat.le_refl _) _ _ _ _ _ _ _ e
          exact ⟨j, by omega, by rw [hA j hj]; exact e2⟩
      · rw [hW i h, hK i h] at hx'
        obtain ⟨j, hj, e2⟩ := hC.only i h _ _ _ _ _ _ _ hx'
        exact ⟨j, hj, by rw [hA j (by omega)]; exact e2⟩
    · intro i j hi hj
      show (if i < n then A i else a) ≠ (if j < n then A j else a)
      rw [hA j (by omega)]
      rcases Nat.lt_or_ge i n with h | h
      · rw [hA i h]; exact hC.ne i j h hj
      · obtain rfl : i = n := by omega
        rw [if_neg (by omega)]
        obtain ⟨m, c, hm⟩ := hC.refs i (Nat.le_refl _) j hj
        have h8 := (hold _ _ _ _ _ _ hm).2
        have h9 := hm.facts hf.wf
        intro e
        rw [e] at h8
        omega
/-- The addresses. -/
def aL (A : Nat → Nat) (n : Nat) : List Int := (List.range n).map (fun i => (A i : Int))
theorem aL_length (A : Nat → Nat) (n : Nat) : (aL A n).length = n := by simp [aL]
theorem aL_get (A : Nat → Nat) (n i : Nat) (h : i < n) : (aL A n)[i]?.getD 0 = (A i : Int) := by simp [aL, h]
theorem aL_snoc (A : Nat → Nat) (n : Nat) : aL A (n + 1) = aL A n ++ [(A n : Int)] := by simp [aL, List.range_succ]
theorem Chain.bd {n : Nat} {W : Nat → List Int} {K : Nat → List PK} {A : Nat → Nat} (h : Chain n W K A) (j : Nat) (hj : j < n) : 64 ≤ A j ∧ A j ≤ 2560 := by
  obtain ⟨m, c, hm⟩ := h.refs n (Nat.le_refl _) j hj
  obtain ⟨hf, hk, _⟩ := h.fine n (Nat.le_refl _)
  have := hm.facts hf.wf
  omega
theorem Chain.aBd {n : Nat} {W : Nat → List Int} {K : Nat → List PK} {A : Nat → Nat} (h : Chain n W K A) (q : Nat) (hq : q ≤ n) : ∀ i : Nat, -9223372036854775808 ≤ (aL A q)[i]?.getD 0 ∧ (aL A q)[i]?.getD 0 ≤ 9223372036854775807 := by
  intro i
  by_cases hi : i < q
  · rw [aL_get A q i hi]; have := h.bd i (by omega); omega
  · rw [List.getElem?_eq_none (by rw [aL_length]; omega)]; simp

end Go.Proofs.YtamcoejlghfleaaGreat

/-
  References in rows: what a push and a poll leave of the words, and of each reference. Plain facts.
-/
namespace Go.Proofs.YtamcoejlghfleaaGreat
open Go.RowKit

/-- A reference lies at a. -/
def RefA (kd : List PK) (ws : List Int) (a : Nat) : Prop := ∃ (m : Nat) (c : Int), At kd ws (a : Nat) a m 4 c 5 false
section
variable {kd : List PK} {ws : List Int} {ds : List (Int × List Int)} {a b : Nat} {x : Int}
theorem RefA.head (h : RefA kd ws a) : ∃ c, HeadT kd ws a 4 c 5 false 0 := by obtain ⟨m, c, h⟩ := h; exact ⟨c, .yes a m 4 c 5 false h⟩
theorem at_room {k c l : Int} {m : Nat} {f : Bool} (hf : Fine ws kd ds) (h : At kd ws (a : Nat) a m k c l f) : l + 1 ≤ m := by
  obtain ⟨k', c', l', f', g1, g2, _⟩ := hf.ob.head a m h.2.1
  obtain ⟨_, _, _, _, p3, _⟩ := g1.parts
  obtain ⟨_, _, _, _, q3, _⟩ := h.2.2.parts
  have : l = l' := by rw [← p3, ← q3]
  omega
theorem RefA.place (hf : Fine ws kd ds) (h : RefA kd ws a) : PlaceT kd ws a 2 (a + 3) 0 ∧ a + 3 < ws.length ∧ 64 ≤ a := by
  obtain ⟨m, c, h⟩ := h
  have h1 := at_room hf h
  have h2 := h.facts hf.wf
  have h3 := hf.len
  exact ⟨.yes a m 2 4 c 5 false h rfl (by omega) h1, by omega, h2.2.1⟩
theorem RefA.put (hf : Fine ws kd ds) (h : RefA kd ws a) (x : Int) : PutT kd ws a 2 x 0 (ws.set (a + 3) x) := .yes (a + 3) (h.place hf).1 (h.place hf).2.1
theorem RefA.link (hf : Fine ws kd ds) (h : RefA kd ws a) (x : Int) : LinkT kd ws a x (ws.set (a + 3) x) := by
  have hp := h.put hf x
  obtain ⟨m, c, h⟩ := h
  exact .yes a m c 5 0 false _ h hp
theorem RefA.fineSet (hf : Fine ws kd ds) (h : RefA kd ws a) (hx : inI x) : Fine (ws.set (a + 3) x) kd ds := (h.put hf x).fine hf hx
theorem RefA.field (hf : Fine ws kd ds) (h : RefA kd ws a) : FieldT kd ws a 2 (ws[a + 3]?.getD 0) 0 := .yes (a + 3) (h.place hf).1 (h.place hf).2.1
/-- What else there is stays as it was. -/
theorem at_kept {y k c l : Int} {p m : Nat} {f : Bool} (hf : Fine ws kd ds) (h : RefA kd ws a) (hA : At kd ws y p m k c l f) (x : Int) : At kd (ws.set (a + 3) x) y p m k c l f := by
  obtain ⟨m', c', h⟩ := h
  have h1 := at_room hf h
  refine ⟨hA.1, hA.2.1, ?_⟩
  rw [set_get_other _ _ _ _ (fun e => ?_)]
  · exact hA.2.2
  · obtain ⟨g1, g2, _⟩ := hf.wf.found hA.2.1
    have := hf.wf.apart h.2.1 hA.2.1 (x := p) (by omega) (by omega) g1 g2
    omega
theorem RefA.kept (hf : Fine ws kd ds) (h : RefA kd ws a) (hb : RefA kd ws b) (x : Int) : RefA kd (ws.set (a + 3) x) b := by
  obtain ⟨m, c, hb⟩ := hb
  exact ⟨m, c, at_kept hf h hb x⟩
theorem at_back {y k c l : Int} {p m : Nat} {f : Bool} (hf : Fine ws kd ds) (h : RefA kd ws a) (hA : At kd (ws.set (a + 3) x) y p m k c l f) : At kd ws y p m k c l f := by
  obtain ⟨m', c', h⟩ := h
  have h1 := at_room hf h
  refine ⟨hA.1, hA.2.1, ?_⟩
  have h3 := hA.2.2
  rw [set_get_other _ _ _ _ (fun e => ?_)] at h3
  · exact h3
  · obtain ⟨g1, g2, _⟩ := hf.wf.found hA.2.1
    have := hf.wf.apart h.2.1 hA.2.1 (x := p) (by omega) (by omega) g1 g2
    omega
theorem RefA.inI (hf : Fine ws kd ds) (h : RefA kd ws a) : inI (a : Int) := by
  obtain ⟨m, c, h⟩ := h
  have := h.facts hf.wf
  unfold Go.Proofs.YtamcoejlghfleaaGreat.inI
  omega
end
theorem set_back {Ls : List (List Int)} {j : Nat} {L L' : List Int} (h : Ls[j]? = some L) : (Ls.set j L').set j L = Ls := by
  rw [List.set_set]
  apply List.ext_getElem?
  intro i
  by_cases e : j = i
  · subst e
    have hj : j < Ls.length := by
      rcases Nat.lt_or_ge j Ls.length with e | e
      · exact e
      · rw [List.getElem?_eq_none e] at h; cases h
    rw [List.getElem?_set_self hj, h]
  · rw [List.getElem?_set_ne e]
theorem set_at {Ls : List (List Int)} {j : Nat} {L : List Int} (h : j < Ls.length) : (Ls.set j L)[j]? = some L := List.getElem?_set_self h

section
variable {kd : List PK} {ws : List Int} {ds : List (Int × List Int)} {Ls : List (List Int)} {a : Nat}
theorem RefA.pushFirst (hf : Fine ws kd ds) (h : RefA kd ws a) {j : Nat} (hL : Ls[j]? = some []) : PushT kd ws Ls (j : Int) (a : Int) 0 (ws.set (a + 3) 0) (Ls.set j [(a : Int)]) := by
  have hl := h.link hf 0
  obtain ⟨m, c, h⟩ := h
  exact .first j a m c 5 false _ rfl hL h hl
theorem RefA.pushMore (hf : Fine ws kd ds) (h : RefA kd ws a) {j y : Nat} {L : List Int} (hL : Ls[j]? = some (L ++ [(y : Int)])) (hy : RefA kd ws y) : PushT kd ws Ls (j : Int) (a : Int) 0 ((ws.set (y + 3) (a : Int)).set (a + 3) 0) (Ls.set j (L ++ [(y : Int)] ++ [(a : Int)])) := by
  have hl := hy.link hf (a : Int)
  have h2 := (hy.kept hf h (a : Int)).link (hy.fineSet hf (h.inI hf)) 0
  obtain ⟨m, c, h⟩ := h
  exact .more j a m c 5 (y : Int) false L _ _ rfl hL h hl h2
theorem RefA.poll (hf : Fine ws kd ds) (h : RefA kd ws a) {j : Nat} {L : List Int} (hL : Ls[j]? = some ((a : Int) :: L)) : PollT kd ws Ls (j : Int) (a : Int) 0 (ws.set (a + 3) 0) (Ls.set j L) :=
  .yes j (a : Int) L _ rfl hL (h.link hf 0)
end

end Go.Proofs.YtamcoejlghfleaaGreat

/-
  References: what each call answers and leaves, whatever is asked. Plain facts.
-/
namespace Go.Proofs.YtamcoejlghfleaaGreat
open Go.RowKit

/-- A word within a block, behind its head. -/
def Inner (kd : List PK) (p : Nat) : Prop := ∃ a m, findN kd a = some (a, m) ∧ a < p ∧ p < a + m
section
variable {kd : List PK} {ws : List Int} {ds : List (Int × List Int)} {p : Nat} {x : Int}
theorem Inner.ne (h : Inner kd p) (hw : WF kd) {q m : Nat} (hq : findN kd q = some (q, m)) : p ≠ q := by
  obtain ⟨a, n, h1, h2, h3⟩ := h
  rintro rfl
  obtain ⟨g1, g2, _⟩ := hw.found hq
  have := hw.apart h1 hq (x := p) (by omega) h3 g1 g2
  omega
theorem Inner.at' (h : Inner kd p) (hw : WF kd) {y k c l : Int} {q m : Nat} {f : Bool} : At kd (ws.set p x) y q m k c l f ↔ At kd ws y q m k c l f := by
  constructor
  · rintro ⟨e1, e2, e3⟩
    rw [set_get_other _ _ _ _ (h.ne hw e2)] at e3
    exact ⟨e1, e2, e3⟩
  · rintro ⟨e1, e2, e3⟩
    refine ⟨e1, e2, ?_⟩
    rw [set_get_other _ _ _ _ (h.ne hw e2)]
    exact e3
theorem Inner.head (h : Inner kd p) (hw : WF kd) {a k c l E : Int} {f : Bool} (hT : HeadT kd ws a k c l f E) : HeadT kd (ws.set p x) a k c l f E := by
  cases hT with
  | no hn => exact .no hn
  | yes b m k c l f hA => exact .yes b m k c l f ((h.at' hw).2 hA)
theorem Inner.fine (h : Inner kd p) (hf : Fine ws kd ds) (hx : inI x) : Fine (ws.set p x) kd ds := by
  obtain ⟨a, m, h1, h2, h3⟩ := h
  exact ⟨hf.wf, hf.ob.field hf.wf h1 h2 h3 x hx, hf.few, by rw [List.length_set]; exact hf.len⟩
theorem Inner.lt (h : Inner kd p) (hf : Fine ws kd ds) : p < ws.length := by
  obtain ⟨a, m, h1, h2, h3⟩ := h
  have := hf.wf.found h1
  have := hf.len
  omega
end

/-- A reference of class c lies at b. -/
def RefC (kd : List PK) (ws : List Int) (b : Nat) (c : Int) : Prop := ∃ m, At kd ws (b : Nat) b m 4 c 5 false
section
variable {kd : List PK} {ws : List Int} {ds : List (Int × List Int)} {p b b' : Nat} {x c c' : Int}
theorem RefC.refA (h : RefC kd ws b c) : RefA kd ws b := by obtain ⟨m, h⟩ := h; exact ⟨m, c, h⟩
theorem RefA.refC (h : RefA kd ws b) : ∃ c, RefC kd ws b c := by obtain ⟨m, c, h⟩ := h; exact ⟨c, m, h⟩
theorem RefC.headT (h : RefC kd ws b c) : HeadT kd ws b 4 c 5 false 0 := by obtain ⟨m, h⟩ := h; exact .yes b m 4 c 5 false h
theorem RefC.cls (h : RefC kd ws b c) : 1 ≤ c ∧ c ≤ 3 := by
  obtain ⟨m, h⟩ := h
  have h3 := h.2.2.1
  rw [mayH_4] at h3
  simp [inB] at h3
  exact h3
theorem refC_of_at {k l : Int} {m : Nat} {f : Bool} (h : At kd ws x b m k c l f) (hk : k = 4) : x = (b : Int) ∧ RefC kd ws b c ∧ l = 5 ∧ f = false := by
  subst hk
  obtain ⟨e, h1, h2⟩ := h
  have h3 := h2.1
  rw [mayH_4] at h3
  simp [inB] at h3
  obtain ⟨hf, _, hl⟩ := h3
  have hl5 : l = 5 := by omega
  subst hl5
  subst hf
  exact ⟨e, ⟨m, rfl, h1, h2⟩, rfl, rfl⟩
theorem RefC.room (h : RefC kd ws b c) (hf : Fine ws kd ds) : ∃ m, findN kd b = some (b, m) ∧ 6 ≤ m ∧ 64 ≤ b ∧ b + m ≤ ws.length ∧ ws.length ≤ 16384 := by
  obtain ⟨m, h⟩ := h
  have h1 := at_room hf h
  have h2 := h.facts hf.wf
  have h3 := hf.len
  exact ⟨m, h.2.1, by omega, h2.2.1, by omega, by omega⟩
theorem RefC.inner (h : RefC kd ws b c) (hf : Fine ws kd ds) (i : Nat) (hi : i < 5) : Inner kd (b + 1 + i) := by
  obtain ⟨m, h1, h2, _⟩ := h.room hf
  exact ⟨b, m, h1, by omega, by omega⟩
theorem RefC.inI (h : RefC kd ws b c) (hf : Fine ws kd ds) : inI (b : Int) := h.refA.inI hf
theorem RefC.place (h : RefC kd ws b c) (hf : Fine ws kd ds) (i : Nat) (hi : i < 5) : PlaceT kd ws b i (b + 1 + i) 0 := by
  obtain ⟨m, h⟩ := h
  have h1 := at_room hf h
  exact .yes b m i 4 c 5 false h rfl (by omega) h1
theorem RefC.put (h : RefC kd ws b c) (hf : Fine ws kd ds) (i : Nat) (hi : i < 5) (x : Int) : PutT kd ws b i x 0 (ws.set (b + 1 + i) x) := .yes (b + 1 + i) (h.place hf i hi) ((h.inner hf i hi).lt hf)
theorem RefC.field (h : RefC kd ws b c) (hf : Fine ws kd ds) (i : Nat) (hi : i < 5) : FieldT kd ws b i (ws[b + 1 + i]?.getD 0) 0 := .yes (b + 1 + i) (h.place hf i hi) ((h.inner hf i hi).lt hf)
theorem RefC.set (h : RefC kd ws b c) (hw : WF kd) (hp : Inner kd p) (x : Int) : RefC kd (ws.set p x) b c := by
  obtain ⟨m, h⟩ := h
  exact ⟨m, (hp.at' hw).2 h⟩
theorem RefC.unset (h : RefC kd (ws.set p x) b c) (hw : WF kd) (hp : Inner kd p) : RefC kd ws b c := by
  obtain ⟨m, h⟩ := h
  exact ⟨m, (hp.at' hw).1 h⟩
theorem RefA.set (h : RefA kd ws b) (hw : WF kd) (hp : Inner kd p) (x : Int) : RefA kd (ws.set p x) b := by
  obtain ⟨c, h⟩ := h.refC
  exact (h.set hw hp x).refA
/-- Fields of two references are two words. -/
theorem RefC.apart (h : RefC kd ws b c) (h' : RefC kd ws b' c') (hf : Fine ws kd ds) {i j : Nat} (hi : i < 5) (hj : j < 5) (e : b + 1 + i = b' + 1 + j) : b = b' ∧ i = j := by
  obtain ⟨m, h1, h2, _⟩ := h.room hf
  obtain ⟨m', h1', h2', _⟩ := h'.room hf
  have := hf.wf.apart h1 h1' (x := b + 1 + i) (by omega) (by omega) (by omega) (by omega)
  omega
end

/-- What there is at a: a reference of a class, or none. -/
inductive StrT (kd : List PK) (ws : List Int) (a : Int) : Int → Prop
  | no (k c l E : Int) (f : Bool) : HeadT kd ws a k c l f E → k ≠ 4 → StrT kd ws a 0
  | yes (b : Nat) (c : Int) : a = b → RefC kd ws b c → StrT kd ws a c
/-- Refer's errors but those of room. -/
inductive MayT (kd : List PK) (ws : List Int) (n : Nat) (s a q : Int) : Int → Prop
  | str : ¬ (1 ≤ s ∧ s ≤ 3) → MayT kd ws n s a q 1
  | none : 1 ≤ s → s ≤ 3 → ¬ (-1 ≤ q ∧ q < n) → MayT kd ws n s a q 2
  | ph : s = 3 → q = -1 → MayT kd ws n s a q 1
  | head (k c l E : Int) (f : Bool) : 1 ≤ s → s ≤ 3 → -1 ≤ q → q < n → ¬ (s = 3 ∧ q = -1) → HeadT kd ws a k c l f E → MayT kd ws n s a q E
/-- What a new reference's words are. -/
def madeW (ws : List Int) (b : Nat) (a q t u : Int) : List Int := (((ws.set (b + 1) a).set (b + 2) (q + 1)).set (b + 4) t).set (b + 5) u
/-- What Refer answers and leaves. -/
inductive ReferT (kd : List PK) (ws : List Int) (ds : List (Int × List Int)) (n : Nat) (S s a q t : Int) : Int → Int → List Int → List PK → Int → Prop
  | may (E : Int) : MayT kd ws n s a q E → E ≠ 0 → ReferT kd ws ds n S s a q t 0 E ws kd S
  | full (E : Int) : MayT kd ws n s a q 0 → MakeT kd ws ds 4 s 5 false 0 E ws kd → E ≠ 0 → ReferT kd ws ds n S s a q t 0 E ws kd S
  | yes (b : Nat) (ws1 : List Int) (kd' : List PK) : MayT kd ws n s a q 0 → MakeT kd ws ds 4 s 5 false b 0 ws1 kd' → RefC kd' ws1 b s → ReferT kd ws ds n S s a q t b 0 (madeW ws1 b a q t (S + 1)) kd' (S + 1)
/-- What Referent answers and leaves. -/
inductive ReadT (kd : List PK) (ws : List Int) (a t : Int) : Int → Int → List Int → Prop
  | kind : StrT kd ws a 0 → ReadT kd ws a t 0 5 ws
  | ph (b : Nat) : a = b → RefC kd ws b 3 → ReadT kd ws a t 0 0 ws
  | plain (b : Nat) (c N : Int) : a = b → RefC kd ws b c → c ≠ 3 → ws[b + 1]?.getD 0 = N → c ≠ 1 ∨ N = 0 → ReadT kd ws a t N 0 ws
  | soft (b : Nat) (N : Int) : a = b → RefC kd ws b 1 → ws[b + 1]?.getD 0 = N → N ≠ 0 → ReadT kd ws a t N 0 (ws.set (b + 4) t)
/-- Words, the first n of a list cleared. -/
def clrN (ws L : List Int) : Nat → List Int
  | 0 => ws
  | n + 1 => (clrN ws L n).set ((L[n]?.getD 0).toNat + 1) 0
/-- What Clear answers and leaves. -/
inductive ClearT (kd : List PK) (ws L : List Int) : Int → List Int → Prop
  | kind (j : Nat) : j < L.length → (∀ i, i < j → ∃ (b : Nat) (c : Int), L[i]?.getD 0 = b ∧ RefC kd ws b c) → StrT kd ws (L[j]?.getD 0) 0 → ClearT kd ws L 5 ws
  | yes : (∀ i, i < L.length → ∃ (b : Nat) (c : Int), L[i]?.getD 0 = b ∧ RefC kd ws b c) → ClearT kd ws L 0 (clrN ws L L.length)
/-- What Enqueue answers and leaves. -/
inductive EnqT (kd : List PK) (ws : List Int) (Ls : List (List Int)) (a : Int) : Bool → Int → List Int → List (List Int) → Prop
  | kind : StrT kd ws a 0 → EnqT kd ws Ls a false 5 ws Ls
  | no (b : Nat) (c : Int) : a = b → RefC kd ws b c → ws[b + 2]?.getD 0 < 1 → EnqT kd ws Ls a false 0 (ws.set (b + 1) 0) Ls
  | yes (b : Nat) (c x E : Int) (ws' : List Int) (Ls' : List (List Int)) : a = b → RefC kd ws b c → ws[b + 2]?.getD 0 = x → 1 ≤ x → PushT kd (ws.set (b + 1) 0) Ls (x - 1) b E ws' Ls' → RefC kd ws' b c → EnqT kd ws Ls a true 0 (ws'.set (b + 2) (-1)) Ls'

section
variable {kd kd' : List PK} {ws ws' : List Int} {ds : List (Int × List Int)} {a : Int}
theorem strT_ex (hf : Fine ws kd ds) (a : Int) : ∃ c, StrT kd ws a c := by
  rcases at_or hf.ob a with ⟨b, m, k, c, l, f, hA, _⟩ | hn
  · by_cases hk : k = 4
    · obtain ⟨e, h, _⟩ := refC_of_at hA hk
      exact ⟨c, .yes b c e h⟩
    · exact ⟨0, .no k c l 0 f (.yes b m k c l f hA) hk⟩
  · exact ⟨0, .no 0 0 0 2 false (.no hn) (by omega)⟩
theorem StrT.or {c : Int} (h : StrT kd ws a c) : StrT kd ws a 0 ∨ ∃ b : Nat, a = b ∧ RefC kd ws b c := by
  cases h with
  | no k c l E f h hk => exact .inl (.no k c l E f h hk)
  | yes b c e h => exact .inr ⟨b, e, h⟩
theorem mayT_ex (hf : Fine ws kd ds) (n : Nat) (s a q : Int) : ∃ E, MayT kd ws n s a q E := by
  by_cases h1 : 1 ≤ s ∧ s ≤ 3
  · by_cases h2 : -1 ≤ q ∧ q < n
    · by_cases h3 : s = 3 ∧ q = -1
      · exact ⟨_, .ph h3.1 h3.2⟩
      · obtain ⟨k, c, l, f, E, hT⟩ := headT_ex hf.ob a
        exact ⟨_, .head k c l E f h1.1 h1.2 h2.1 h2.2 h3 hT⟩
    · exact ⟨_, .none h1.1 h1.2 h2⟩
  · exact ⟨_, .str h1⟩
theorem MayT.zero {n : Nat} {s a q : Int} (h : MayT kd ws n s a q 0) : 1 ≤ s ∧ s ≤ 3 ∧ -1 ≤ q ∧ q < n := by
  cases h with
  | head k c l E f h1 h2 h3 h4 _ _ => exact ⟨h1, h2, h3, h4⟩
theorem mayH_ref {s : Int} (h1 : 1 ≤ s) (h2 : s ≤ 3) : mayH 4 s 5 false = true := by
  rw [mayH_4, inB_yes h1 h2, inB_yes (by omega) (by omega)]; rfl
/-- A reference that was made lies there; what there was lies there yet. -/
theorem MakeT.ref {s : Int} {b : Nat} (h : MakeT kd ws ds 4 s 5 false b 0 ws' kd') (hf : Fine ws kd ds) : RefC kd' ws' b s ∧ Fine ws' kd' ds ∧ kd'.length = kd.length ∧
    (∀ (p m : Nat) (k c l : Int) (f : Bool), At kd ws p p m k c l f → At kd' ws' p p m k c l f ∧ (p + m ≤ b ∨ b + 6 ≤ p) ∧ ∀ i, i < m → ws'[p + i]?.getD 0 = ws[p + i]?.getD 0) ∧
    (∀ i, i < 5 → ws'[b + 1 + i]?.getD 0 = 0) := by
  obtain ⟨f1, l1⟩ := h.fine hf
  have hl := hf.len
  generalize hB : (b : Int) = B at h
  cases h with
  | fits E _ _ _ h0 => exact absurd rfl h0
  | yes a m kd' hm _ hF hr hb =>
    obtain rfl : a = b := by omega
    obtain ⟨b', hb', h1, h2, h3, h4, h5, h6, h7⟩ := hr.spec hf.wf
    obtain rfl : m = b' := by rw [hb] at hb'; omega
    have hat := MakeT.at hf.wf hf.len hm hr hb
    have hR : RefC kd' ((fill0 ws a m).set a (putH 4 s 5 false)) a s := ⟨m, hat⟩
    have hm6 : 6 ≤ m := by
      obtain ⟨m', g1, g2, _⟩ := hR.room f1
      rw [hat.2.1] at g1
      cases g1
      exact g2
    refine ⟨hR, f1, l1, fun p n k c l f hA => ?_, fun i hi => ?_⟩
    · obtain ⟨g1, g2⟩ := hA.made (x := putH 4 s 5 false) hf.wf hf.len hr hb
      refine ⟨g1, by omega, fun i hi => ?_⟩
      rw [set_get_other _ _ _ _ (by omega), fill0_get _ _ _ _ (by omega), if_neg (by omega)]
    · rw [set_get_other _ _ _ _ (by omega), fill0_get _ _ _ _ (by omega), if_pos (by omega)]
theorem referT_ex (hf : Fine ws kd ds) (n : Nat) (S s a q t : Int) : ∃ N E ws' kd' S', ReferT kd ws ds n S s a q t N E ws' kd' S' := by
  obtain ⟨E, hM⟩ := mayT_ex hf n s a q
  by_cases hE : E = 0
  · subst hE
    obtain ⟨h1, h2, _⟩ := hM.zero
    obtain ⟨N, E, ws', kd', hT⟩ := makeT_ex ws ds 4 s 5 false hf.wf
    have hT' := hT
    cases hT with
    | arg h => rw [mayH_ref h1 h2] at h; cases h
    | fits E _ _ h hE => exact ⟨_, _, _, _, _, .full E hM hT' hE⟩
    | full _ _ _ _ => exact ⟨_, _, _, _, _, .full 3 hM hT' (by omega)⟩
    | yes b m kd' _ _ _ _ _ => exact ⟨_, _, _, _, _, .yes b _ kd' hM hT' (hT'.ref hf).1⟩
  · exact ⟨_, _, _, _, _, .may E hM hE⟩
theorem readT_ex (hf : Fine ws kd ds) (a t : Int) : ∃ N E ws', ReadT kd ws a t N E ws' := by
  obtain ⟨c, hS⟩ := strT_ex hf a
  rcases hS.or with h | ⟨b, e, h⟩
  · exact ⟨_, _, _, .kind h⟩
  · by_cases h3 : c = 3
    · subst h3; exact ⟨_, _, _, .ph b e h⟩
    · by_cases h1 : c = 1 ∧ ws[b + 1]?.getD 0 ≠ 0
      · obtain ⟨rfl, h1⟩ := h1
        exact ⟨_, _, _, .soft b _ e h rfl h1⟩
      · exact ⟨_, _, _, .plain b c _ e h h3 rfl (by omega)⟩
theorem clearT_ex (hf : Fine ws kd ds) (L : List Int) : ∃ E ws', ClearT kd ws L E ws' := by
  have key : ∀ n, n ≤ L.length → (∃ j, j < L.length ∧ (∀ i, i < j → ∃ (b : Nat) (c : Int), L[i]?.getD 0 = b ∧ RefC kd ws b c) ∧ StrT kd ws (L[j]?.getD 0) 0) ∨ ∀ i, i < n → ∃ (b : Nat) (c : Int), L[i]?.getD 0 = b ∧ RefC kd ws b c := by
    intro n
    induction n with
    | zero => intro _; exact .inr (fun i hi => by omega)
    | succ n ih =>
      intro hn
      rcases ih (by omega) with h | h
      · exact .inl h
      · obtain ⟨c, hS⟩ := strT_ex hf (L[n]?.getD 0)
        rcases hS.or with h0 | ⟨b, e, h1⟩
        · exact .inl ⟨n, by omega, h, h0⟩
        · refine .inr (fun i hi => ?_)
          rcases Nat.lt_or_ge i n with g | g
          · exact h i g
          · obtain rfl : i = n := by omega
            exact ⟨b, c, e, h1⟩
  rcases key L.length (Nat.le_refl _) with ⟨j, h1, h2, h3⟩ | h
  · exact ⟨_, _, .kind j h1 h2 h3⟩
  · exact ⟨_, _, .yes h⟩
end

section
variable {kd kd' : List PK} {ws ws' L : List Int} {ds : List (Int × List Int)} {a : Int}
theorem Fine.inI (hf : Fine ws kd ds) (i : Nat) : inI (ws[i]?.getD 0) := hf.ob.bd i
/-- A new reference's words are put one by one. -/
theorem RefC.madeW {b : Nat} {c a q t u : Int} (h : RefC kd ws b c) (hf : Fine ws kd ds) (ha : Go.Proofs.YtamcoejlghfleaaGreat.inI a) (hq : Go.Proofs.YtamcoejlghfleaaGreat.inI (q + 1)) (ht : Go.Proofs.YtamcoejlghfleaaGreat.inI t) (hu : Go.Proofs.YtamcoejlghfleaaGreat.inI u) :
    PutT kd ws b 0 a 0 (ws.set (b + 1) a) ∧ PutT kd (ws.set (b + 1) a) b 1 (q + 1) 0 ((ws.set (b + 1) a).set (b + 2) (q + 1)) ∧ PutT kd ((ws.set (b + 1) a).set (b + 2) (q + 1)) b 3 t 0 (((ws.set (b + 1) a).set (b + 2) (q + 1)).set (b + 4) t) ∧
    PutT kd (((ws.set (b + 1) a).set (b + 2) (q + 1)).set (b + 4) t) b 4 u 0 (madeW ws b a q t u) ∧ Fine (madeW ws b a q t u) kd ds ∧ RefC kd (madeW ws b a q t u) b c := by
  have p0 := h.inner hf 0 (by omega)
  have p1 := h.inner hf 1 (by omega)
  have p3 := h.inner hf 3 (by omega)
  have p4 := h.inner hf 4 (by omega)
  have f1 := p0.fine hf ha
  have r1 := h.set hf.wf p0 a
  have f2 := p1.fine f1 hq
  have r2 := r1.set hf.wf p1 (q + 1)
  have f3 := p3.fine f2 ht
  have r3 := r2.set hf.wf p3 t
  exact ⟨h.put hf 0 (by omega) a, r1.put f1 1 (by omega) (q + 1), r2.put f2 3 (by omega) t, r3.put f3 4 (by omega) u, p4.fine f3 hu, r3.set hf.wf p4 u⟩
/-- Clearing, one by one. -/
theorem clrN_step (hf : Fine ws kd ds) (h : ∀ i, i < L.length → ∃ (b : Nat) (c : Int), L[i]?.getD 0 = b ∧ RefC kd ws b c) : ∀ n, n ≤ L.length → Fine (clrN ws L n) kd ds ∧ (∀ (b : Nat) (c : Int), RefC kd ws b c → RefC kd (clrN ws L n) b c) ∧ ∀ (q m : Nat) (y k c l : Int) (f : Bool), At kd ws y q m k c l f → At kd (clrN ws L n) y q m k c l f := by
  intro n
  induction n with
  | zero => intro _; exact ⟨hf, fun b c h => h, fun q m y k c l f h => h⟩
  | succ n ih =>
    intro hn
    obtain ⟨g1, g2, g3⟩ := ih (by omega)
    obtain ⟨b, c, e, hR⟩ := h n (by omega)
    have p0 := hR.inner hf 0 (by omega)
    have eb : (L[n]?.getD 0).toNat + 1 = b + 1 + 0 := by rw [e]; simp
    show Fine ((clrN ws L n).set ((L[n]?.getD 0).toNat + 1) 0) kd ds ∧ (∀ (b : Nat) (c : Int), RefC kd ws b c → RefC kd ((clrN ws L n).set ((L[n]?.getD 0).toNat + 1) 0) b c) ∧ ∀ (q m : Nat) (y k c l : Int) (f : Bool), At kd ws y q m k c l f → At kd ((clrN ws L n).set ((L[n]?.getD 0).toNat + 1) 0) y q m k c l f
    rw [eb]
    exact ⟨p0.fine g1 inI_0, fun b c h => (g2 b c h).set hf.wf p0 0, fun q m y k c l f h => (p0.at' hf.wf).2 (g3 q m y k c l f h)⟩
theorem clrN_put (hf : Fine ws kd ds) (h : ∀ i, i < L.length → ∃ (b : Nat) (c : Int), L[i]?.getD 0 = b ∧ RefC kd ws b c) (n : Nat) (hn : n < L.length) : PutT kd (clrN ws L n) (L[n]?.getD 0) 0 0 0 (clrN ws L (n + 1)) := by
  obtain ⟨g1, g2, _⟩ := clrN_step hf h n (by omega)
  obtain ⟨b, c, e, hR⟩ := h n hn
  show PutT kd (clrN ws L n) (L[n]?.getD 0) 0 0 0 ((clrN ws L n).set ((L[n]?.getD 0).toNat + 1) 0)
  rw [e]
  exact (g2 b c hR).put g1 0 (by omega) 0
/-- What clearing leaves of a word. -/
theorem clrN_get {p : Nat} (hp : ∀ i, i < L.length → (L[i]?.getD 0).toNat + 1 ≠ p) : ∀ n, n ≤ L.length → (clrN ws L n)[p]?.getD 0 = ws[p]?.getD 0 := by
  intro n
  induction n with
  | zero => intro _; rfl
  | succ n ih =>
    intro hn
    show ((clrN ws L n).set ((L[n]?.getD 0).toNat + 1) 0)[p]?.getD 0 = _
    rw [set_get_other _ _ _ _ (hp n (by omega)), ih (by omega)]
theorem ClearT.fine {E : Int} (h : ClearT kd ws L E ws') (hf : Fine ws kd ds) : Fine ws' kd ds := by
  cases h with
  | kind j _ _ _ => exact hf
  | yes h => exact (clrN_step hf h _ (Nat.le_refl _)).1
theorem ReadT.fine {t N E : Int} (h : ReadT kd ws a t N E ws') (hf : Fine ws kd ds) (ht : Go.Proofs.YtamcoejlghfleaaGreat.inI t) : Fine ws' kd ds := by
  cases h with
  | kind _ => exact hf
  | ph b _ _ => exact hf
  | plain b c N _ _ _ _ _ => exact hf
  | soft b N e h _ _ => exact (h.inner hf 3 (by omega)).fine hf ht
end

end Go.Proofs.YtamcoejlghfleaaGreat

/-
  The document's own references: what MayRefer, Refer and Referent answer and leave.
-/
namespace Go.Proofs.YtamcoejlghfleaaGreat
open Go.RowKit

section
variable {w0 w : World} {F0 : List Nat} {rb mb : Nat} {S : Int} {ws : List Int} {kd : List PK} {ds : List (Int × List Int)} {Ls : List (List Int)}
/-- A call on the heap alone. -/
theorem has_fheap {P : Program} {f : FuncId} {args : Array Value} {ws' : List Int} {kd' : List PK} {ds' : List (Int × List Int)} {Q : Ending → World → Prop} (h : Has w0 F0 (refsA rb mb S ws kd ds Ls) w) (hc : ∀ F, Has w F (rheapA mb ws kd ds) w → Calls P f args w fun e w' => Q e w' ∧ Has w F (rheapA mb ws' kd' ds') w') :
    Calls P f args w fun e w' => Q e w' ∧ Has w0 F0 (refsA rb mb S ws' kd' ds' Ls) w' := by
  obtain ⟨va, vc, hr⟩ := h.fraw
  refine (has_right hr hc).mono ?_
  rintro e w' ⟨hq, h'⟩
  exact ⟨hq, Has.refs h' h.fok⟩
theorem Has.fpart (h : Has w0 F0 (refsA rb mb S ws kd ds Ls) w) : w.cell? ⟨rb, 0, none⟩ = some (.pointer (some ⟨mb, 0, none⟩)) ∧ w.cell? ⟨rb, 2, none⟩ = some (.int .i64 S) ∧ w.frozen? ⟨rb, 2, none⟩ = false ∧ ∃ va vc, w.cell? ⟨rb, 1, none⟩ = some (.slice va Ls.length vc) := by
  obtain ⟨va, vc, hr⟩ := h.fraw
  have h1 : w.heap[rb]? = some (rObj mb S va Ls.length vc) := hr.fst.fst.fact (fun _ h => h.2)
  unfold rObj at h1
  exact ⟨by simp [World.cell?, h1], by simp [World.cell?, h1], by simp [World.frozen?, h1], va, vc, by simp [World.cell?, h1]⟩
theorem Has.fmade (h : Has w0 F0 (refsA rb mb S ws kd ds Ls) w) (T : Int) : Has w0 F0 (refsA rb mb T ws kd ds Ls) (w.setCell ⟨rb, 2, none⟩ (.int .i64 T)) := by
  obtain ⟨va, vc, hr⟩ := h.fraw
  have hb4 : w.heap[rb]? = some (rObj mb S va Ls.length vc) := hr.fst.fst.fact (fun _ h => h.2)
  have hb5 := heap_setCell_same w rb 2 _ _ (.int .i64 T) hb4
  exact Has.refs ((hr.assoc.setB (o' := rObj mb T va Ls.length vc) (Keep.setCell (S := [rb]) w (a := ⟨rb, 2, none⟩) (.int .i64 T) (by simp)) (by simpa [rObj] using hb5)).assoc') h.fok
theorem StrT.zero {a : Int} (h : StrT kd ws a 0) : ∃ k c l E f, HeadT kd ws a k c l f E ∧ k ≠ 4 := by
  generalize h0 : (0 : Int) = c at h
  cases h with
  | no k c l E f h hk => exact ⟨k, c, l, E, f, h, hk⟩
  | yes b c e hR => have := hR.cls; omega

set_option maxRecDepth 100000 in
set_option maxHeartbeats 3200000 in
theorem fmay (n : Nat) (s a q E : Int) (w : World) (h : Has w0 F0 (refsA rb mb S ws kd ds Ls) w) (hn : Ls.length = n) (hT : MayT kd ws n s a q E) :
    Calls Tryz.prog 34 #[.pointer (some ⟨rb, 0, none⟩), .int .i64 s, .int .i64 a, .int .i64 q] w fun e w' => e = .returned (.int .i64 E) ∧ Keep [] w w' := by
  obtain ⟨c0, _, _, va, vc, c1⟩ := h.fpart
  rw [hn] at c1
  have HC := hid c1
  have HH := hid h.fheap
  clear h hn c1
  cases hT with
  | str hs =>
    by_cases h1 : s < 1
    · go_enter Tryz.func34, Tryz.ntmps34
      go_wp2_with fail
      go_ret
      exact ⟨rfl, Keep.refl _ _⟩
    · have h2 : 3 < s := by omega
      clear hs
      go_enter Tryz.func34, Tryz.ntmps34
      go_wp2_with fail
      go_ret
      exact ⟨rfl, Keep.refl _ _⟩
  | none h1 h2 h3 =>
    have d1 : decide (s < 1) = false := decide_eq_false (by omega)
    have d2 : decide (3 < s) = false := decide_eq_false (by omega)
    have d3 : (q != -1) = true := by rw [bne_iff_ne]; omega
    have d3' : (q == -1) = false := by rw [beq_eq_false_iff_ne]; omega
    have HB := (show Hid (qhasB n q = false) from qhasB_no (by omega))
    clear h3
    go_enter Tryz.func34, Tryz.ntmps34
    go_wp2_with (first | (go_at_call 45; refine (fhas n q _ HC.out).mono ?_; rw [HB.out]; rintro e w1 ⟨rfl, rfl⟩))
    go_ret
    exact ⟨rfl, Keep.refl _ _⟩
  | ph h1 h2 =>
    subst h1
    subst h2
    go_enter Tryz.func34, Tryz.ntmps34
    go_wp2_with fail
    go_ret
    exact ⟨rfl, Keep.refl _ _⟩
  | head k c l E f h1 h2 h3 h4 h5 hH =>
    have hfo := fun (o : Bool) (w : World) => headed_ok k c l f o w
    have HT := hid hH
    have d1 : decide (s < 1) = false := decide_eq_false (by omega)
    have d2 : decide (3 < s) = false := decide_eq_false (by omega)
    have hE : (E = 0 ∧ okE E = true) ∨ (E = 2 ∧ okE E = false) := by
      cases hH with
      | no _ => right; exact ⟨rfl, rfl⟩
      | yes b m k c l f _ => left; exact ⟨rfl, rfl⟩
    clear hH
    by_cases hq : q = -1
    · subst hq
      have hs : (s == 3) = false := by rw [beq_eq_false_iff_ne]; exact fun e => h5 ⟨e, rfl⟩
      clear h5
      rcases hE with ⟨rfl, hO⟩ | ⟨rfl, hO⟩
      all_goals
        have HO := hid hO
        clear hO
        go_enter Tryz.func34, Tryz.ntmps34
        go_upto_region 7 with fail
        go_wp2_with fail
        refine (rhead a k c l _ f _ HH.out HT.out).mono ?_
        rw [HO.out]
        rintro e w1 ⟨rfl, hK1⟩
        go_wp2_with fail
        go_ret
        exact ⟨rfl, hK1⟩
    · have d3 : (q != -1) = true := by rw [bne_iff_ne]; exact hq
      have d3' : (q == -1) = false := by rw [beq_eq_false_iff_ne]; exact hq
      have HB := (show Hid (qhasB n q = true) from qhasB_yes (by omega))
      clear h5 hq
      by_cases hs : s = 3
      · have e1 : (s == 3) = true := by simpa using hs
        clear hs
        rcases hE with ⟨rfl, hO⟩ | ⟨rfl, hO⟩
        all_goals
          have HO := hid hO
          clear hO
          go_enter Tryz.func34, Tryz.ntmps34
          go_upto_region 7 with (first | (go_at_call 45; refine (fhas n q _ HC.out).mono ?_; rw [HB.out]; rintro e w1 ⟨rfl, rfl⟩))
          go_wp2_with fail
          refine (rhead a k c l _ f _ HH.out HT.out).mono ?_
          rw [HO.out]
          rintro e w1 ⟨rfl, hK1⟩
          go_wp2_with fail
          go_ret
          exact ⟨rfl, hK1⟩
      · have e1 : (s == 3) = false := by rw [beq_eq_false_iff_ne]; exact hs
        clear hs
        rcases hE with ⟨rfl, hO⟩ | ⟨rfl, hO⟩
        all_goals
          have HO := hid hO
          clear hO
          go_enter Tryz.func34, Tryz.ntmps34
          go_upto_region 7 with (first | (go_at_call 45; refine (fhas n q _ HC.out).mono ?_; rw [HB.out]; rintro e w1 ⟨rfl, rfl⟩))
          go_wp2_with fail
          refine (rhead a k c l _ f _ HH.out HT.out).mono ?_
          rw [HO.out]
          rintro e w1 ⟨rfl, hK1⟩
          go_wp2_with fail
          go_ret
          exact ⟨rfl, hK1⟩

def gotObj (N E : Int) : Obj := .cells #[.int .i64 N, .int .i64 E] 34 (0, 0)
theorem Has.got {A : Asn} {b : Nat} {N E : Int} (h : Has w0 F0 (A.star (blockA b (gotObj N E))) w) : w.heap[b]? = some (.cells #[.int .i64 N, .int .i64 E] 34 (0, 0)) := h.snd.fact (fun _ h => h.2)
theorem has_lheap {P : Program} {f : FuncId} {args : Array Value} {ws' : List Int} {kd' : List PK} {ds' : List (Int × List Int)} {A : Asn} {Q : Ending → World → Prop} (h : Has w0 F0 ((refsA rb mb S ws kd ds Ls).star A) w) (hc : ∀ F, Has w F (rheapA mb ws kd ds) w → Calls P f args w fun e w' => Q e w' ∧ Has w F (rheapA mb ws' kd' ds') w') :
    Calls P f args w fun e w' => Q e w' ∧ Has w0 F0 ((refsA rb mb S ws' kd' ds' Ls).star A) w' := has_left h (fun _ h => has_fheap h hc)

set_option maxRecDepth 100000 in
set_option maxHeartbeats 6400000 in
theorem frefer (n : Nat) (s a q t N E S' : Int) (ws' : List Int) (kd' : List PK) (w : World) (h : Has w0 F0 (refsA rb mb S ws kd ds Ls) w) (hn : Ls.length = n) (hT : ReferT kd ws ds n S s a q t N E ws' kd' S') (ha : inI a) (ht : inI t) (hS : 0 ≤ S ∧ S < 1000000) :
    Calls Tryz.prog 7 #[.pointer (some ⟨rb, 0, none⟩), .int .i64 s, .int .i64 a, .int .i64 q, .int .i64 t] w fun e w' => e = .returned (.agg #[.int .i64 N, .int .i64 E]) ∧ Has w0 F0 (refsA rb mb S' ws' kd' ds Ls) w' := by
  have HN := hid hn
  have hx0 := h.newB (gotObj 0 0)
  have hn8 : n ≤ 8 := by rw [← hn]; exact h.fok.1
  have hfi := h.fheap.rfine
  cases hT with
  | may E hM hE =>
    have HM := hid hM
    have hd : (E != 0) = true := by simpa using hE
    have hd' : (E == 0) = false := by simpa using hE
    clear h hn hM hE hfi
    go_enter Tryz.func7, Tryz.ntmps7
    go_upto_region 1 with fail
    unfold gotObj at hx0
    generalize w.alloc (.cells #[.int .i64 0, .int .i64 0] 34) = w1 at *
    generalize w.heap.size = bx at *
    have HX := (show Hid (Has w0 F0 ((refsA rb mb S ws kd ds Ls).star (blockA bx (gotObj 0 0))) w1) from hx0)
    clear hx0
    go_upto_region 3 with (first | (go_at_call 34; refine (fmay n s a q E _ HX.out.fst HN.out HM.out).mono ?_; rintro e w2 ⟨rfl, hK2⟩))
    have HX2 := hid (HX.out.keep0 hK2)
    clear HX hK2
    have hx2 := HX2.out.got
    obtain ⟨f0, f1⟩ := two_free hx2
    obtain ⟨d0, d1⟩ := two_cells hx2
    go_wp2_with fail
    obtain ⟨z, hk4⟩ := two_put hx2 (.int .i64 0) (.int .i64 E)
    refine bodyPost_ret (results_cell_row rfl _ _ bx 34 #[.int .i64 0, .int .i64 E] (0, 0) _ rfl z Tryz.underlying34 rfl (by kernel_rfl)) rfl ?_
    exact ⟨rfl, (HX2.out.block hk4 z).fst⟩
  | full E hM hMk hE =>
    have HM := hid hM
    have HK := hid hMk
    have hd : (E != 0) = true := by simpa using hE
    have hd' : (E == 0) = false := by simpa using hE
    clear h hn hM hE hMk hfi
    go_enter Tryz.func7, Tryz.ntmps7
    go_upto_region 1 with fail
    unfold gotObj at hx0
    generalize w.alloc (.cells #[.int .i64 0, .int .i64 0] 34) = w1 at *
    generalize w.heap.size = bx at *
    have HX := (show Hid (Has w0 F0 ((refsA rb mb S ws kd ds Ls).star (blockA bx (gotObj 0 0))) w1) from hx0)
    clear hx0
    go_upto_region 4 with (first | (go_at_call 34; refine (fmay n s a q 0 _ HX.out.fst HN.out HM.out).mono ?_; rintro e w2 ⟨rfl, hK2⟩))
    have HX2 := hid (HX.out.keep0 hK2)
    clear HX hK2
    obtain ⟨c0, _⟩ := HX2.out.fst.fpart
    go_upto_region 5 with (first | (go_at_call 30; refine (has_lheap HX2.out (fun F hF => rmake 4 s 5 0 E false _ _ _ hF HK.out)).mono ?_; rintro e w3 ⟨rfl, hX3⟩))
    have hg := heap_alloc_new w3 (.cells #[.int .i64 0, .int .i64 E] 34)
    have HX4 := hid (hX3.keep0 (Keep.alloc [] w3 (.cells #[.int .i64 0, .int .i64 E] 34)))
    clear hX3 HX2 c0
    generalize w3.alloc (.cells #[.int .i64 0, .int .i64 E] 34) = w4 at *
    generalize w3.heap.size = bg at *
    obtain ⟨g0, g1⟩ := two_cells hg
    have hx4 := HX4.out.got
    obtain ⟨f0, f1⟩ := two_free hx4
    obtain ⟨d0, d1⟩ := two_cells hx4
    go_wp2_with fail
    obtain ⟨z, hk5⟩ := two_put hx4 (.int .i64 0) (.int .i64 E)
    refine bodyPost_ret (results_cell_row rfl _ _ bx 34 #[.int .i64 0, .int .i64 E] (0, 0) _ rfl z Tryz.underlying34 rfl (by kernel_rfl)) rfl ?_
    exact ⟨rfl, (HX4.out.block hk5 z).fst⟩
  | yes b ws1 kd' hM hMk hR =>
    have hz := hM.zero
    have hS1 : inI (S + 1) := ⟨by omega, by omega⟩
    obtain ⟨_, hf1, _⟩ := hMk.ref hfi
    obtain ⟨p0, p1, p3, p4, _, _⟩ := hR.madeW hf1 ha (q := q) ⟨by omega, by omega⟩ ht hS1
    have HM := hid hM
    have HK := hid hMk
    have HP0 := hid p0
    have HP1 := hid p1
    have HP3 := hid p3
    have HP4 := hid p4
    have HA := hid ha
    have HT := hid ht
    have HQ := (show Hid (inI (q + 1)) from ⟨by omega, by omega⟩)
    have HS1 := hid hS1
    have hq1 : -1 ≤ q := hz.2.2.1
    have hq2 : q < 8 := by omega
    have hwq : IntKind.i64.wrap (q + 1) = q + 1 := IntWalk.i64_in _ (by omega)
    obtain ⟨hS0, hS2⟩ := hS
    clear h hn hM hMk hR hz hn8 hS1 hf1 p0 p1 p3 p4 ha ht hfi
    go_enter Tryz.func7, Tryz.ntmps7
    go_upto_region 1 with fail
    unfold gotObj at hx0
    generalize w.alloc (.cells #[.int .i64 0, .int .i64 0] 34) = w1 at *
    generalize w.heap.size = bx at *
    have HX := (show Hid (Has w0 F0 ((refsA rb mb S ws kd ds Ls).star (blockA bx (gotObj 0 0))) w1) from hx0)
    clear hx0
    go_upto_region 4 with (first | (go_at_call 34; refine (fmay n s a q 0 _ HX.out.fst HN.out HM.out).mono ?_; rintro e w2 ⟨rfl, hK2⟩))
    have HX2 := hid (HX.out.keep0 hK2)
    clear HX hK2
    obtain ⟨c0, _⟩ := HX2.out.fst.fpart
    go_upto_region 5 with (first | (go_at_call 30; refine (has_lheap HX2.out (fun F hF => rmake 4 s 5 b 0 false _ _ _ hF HK.out)).mono ?_; rintro e w3 ⟨rfl, hX3⟩))
    have hx4 := hX3.newB (gotObj b 0)
    clear hX3 HX2 c0 HK HM
    unfold gotObj at hx4
    generalize w3.alloc (.cells #[.int .i64 (b : Int), .int .i64 0] 34) = w4 at *
    generalize w3.heap.size = bg at *
    have HX4 := (show Hid (Has w0 F0 ((refsA rb mb S ws1 kd' ds Ls).star ((blockA bx (gotObj 0 0)).star (blockA bg (gotObj b 0)))) w4) from hx4.assoc)
    clear hx4
    obtain ⟨_, c2, f2, _⟩ := HX4.out.fst.fpart
    have hg := HX4.out.assoc'.got
    obtain ⟨g0, g1⟩ := two_cells hg
    go_upto_region 8 with fail
    have HX5 := (show Hid (Has w0 F0 ((refsA rb mb (S + 1) ws1 kd' ds Ls).star ((blockA bx (gotObj 0 0)).star (blockA bg (gotObj b 0)))) (w4.setCell ⟨rb, 2, none⟩ (.int .i64 (S + 1)))) from HX4.out.left (fun F hF => (Has.start hF).fmade (S + 1)))
    clear HX4 c2 f2 hg g0 g1
    generalize w4.setCell ⟨rb, 2, none⟩ (.int .i64 (S + 1)) = w5 at *
    obtain ⟨c0, _, _, _⟩ := HX5.out.fst.fpart
    have g0 := (two_cells HX5.out.assoc'.got).1
    go_cut [] from 40 to 47 (fun wz => Hid (Has w0 F0 ((refsA rb mb (S + 1) (ws1.set (b + 1) a) kd' ds Ls).star ((blockA bx (gotObj 0 0)).star (blockA bg (gotObj b 0)))) wz))
    case first =>
      go_region_law (first | (go_simp; refine (has_lheap (HX5.out.keep0 (Keep.drew [] _)) (fun F hF => rput b 0 a 0 _ _ hF HP0.out HA.out)).mono ?_; rintro e w6 ⟨rfl, hX6⟩))
      all_goals (go_wp2_with fail)
      all_goals go_meet
      all_goals exact hX6
    case rest =>
    clear HX5 c0 g0
    obtain ⟨w6, rfl⟩ : ∃ w6, w6 = wc := ⟨_, rfl⟩
    have HX6 := hcut
    clear hcut
    obtain ⟨c0, _, _, _⟩ := HX6.out.fst.fpart
    have g0 := (two_cells HX6.out.assoc'.got).1
    go_upto_region 9 with fail
    go_cut [] from 48 to 56 (fun wz => Hid (Has w0 F0 ((refsA rb mb (S + 1) ((ws1.set (b + 1) a).set (b + 2) (q + 1)) kd' ds Ls).star ((blockA bx (gotObj 0 0)).star (blockA bg (gotObj b 0)))) wz))
    case first =>
      go_region_law (first | (go_simp; refine (has_lheap (HX6.out.keep0 (Keep.drew [] _)) (fun F hF => rput b 1 (q + 1) 0 _ _ hF HP1.out HQ.out)).mono ?_; rintro e w7 ⟨rfl, hX7⟩))
      all_goals (go_wp2_with fail)
      all_goals go_meet
      all_goals exact hX7
    case rest =>
    clear HX6 c0 g0
    obtain ⟨w7, rfl⟩ : ∃ w7, w7 = wc := ⟨_, rfl⟩
    have HX7 := hcut
    clear hcut
    obtain ⟨c0, _, _, _⟩ := HX7.out.fst.fpart
    have g0 := (two_cells HX7.out.assoc'.got).1
    go_upto_region 10 with fail
    go_cut [] from 57 to 64 (fun wz => Hid (Has w0 F0 ((refsA rb mb (S + 1) (((ws1.set (b + 1) a).set (b + 2) (q + 1)).set (b + 4) t) kd' ds Ls).star ((blockA bx (gotObj 0 0)).star (blockA bg (gotObj b 0)))) wz))
    case first =>
      go_region_law (first | (go_simp; refine (has_lheap (HX7.out.keep0 (Keep.drew [] _)) (fun F hF => rput b 3 t 0 _ _ hF HP3.out HT.out)).mono ?_; rintro e w8 ⟨rfl, hX8⟩))
      all_goals (go_wp2_with fail)
      all_goals go_meet
      all_goals exact hX8
    case rest =>
    clear HX7 c0 g0
    obtain ⟨w8, rfl⟩ : ∃ w8, w8 = wc := ⟨_, rfl⟩
    have HX8 := hcut
    clear hcut
    obtain ⟨c0, c2, _, _⟩ := HX8.out.fst.fpart
    have g0 := (two_cells HX8.out.assoc'.got).1
    go_upto_region 11 with fail
    go_cut [] from 65 to 75 (fun wz => Hid (Has w0 F0 ((refsA rb mb (S + 1) (madeW ws1 b a q t (S + 1)) kd' ds Ls).star ((blockA bx (gotObj 0 0)).star (blockA bg (gotObj b 0)))) wz))
    case first =>
      go_region_law (first | (go_simp; refine (has_lheap (HX8.out.keep0 (Keep.drew [] _)) (fun F hF => rput b 4 (S + 1) 0 _ _ hF HP4.out HS1.out)).mono ?_; rintro e w9 ⟨rfl, hX9⟩))
      all_goals (go_wp2_with fail)
      all_goals go_meet
      all_goals exact hX9
    case rest =>
    clear HX8 c0 c2 g0
    obtain ⟨w9, rfl⟩ : ∃ w9, w9 = wc := ⟨_, rfl⟩
    have HX9 := hcut
    clear hcut
    obtain ⟨g0, g1⟩ := two_cells HX9.out.assoc'.got
    have hx9 : w9.heap[bx]? = some (.cells #[.int .i64 0, .int .i64 0] 34 (0, 0)) := HX9.out.snd.fst.fact (fun _ h => h.2)
    obtain ⟨f0, f1⟩ := two_free hx9
    obtain ⟨d0, d1⟩ := two_cells hx9
    go_wp2_with fail
    obtain ⟨z, hk9⟩ := two_put hx9 (.int .i64 (b : Int)) (.int .i64 0)
    refine bodyPost_ret (results_cell_row rfl _ _ bx 34 #[.int .i64 (b : Int), .int .i64 0] (0, 0) _ rfl z Tryz.underlying34 rfl (by kernel_rfl)) rfl ?_
    exact ⟨rfl, (HX9.out.assoc'.fst.block hk9 z).fst⟩
end

end Go.Proofs.YtamcoejlghfleaaGreat

/-
  Package ref in memory: the block of Refs beside its queues; what heap, strength, may, New, Serial and Referent answer and leave.
-/
namespace Go.Proofs.YtamcoejlghfleaaGreat
open Go.RowKit

def pObj (qb : Nat) (S : Int) : Obj := .cells #[.pointer (some ⟨qb, 0, none⟩), .int .i64 S] 47 (0, 0)
/-- References of the program: their block, their queues, the heap of these. -/
def prefA (pb qb hb : Nat) (S : Int) (ws : List Int) (kd : List PK) (ds : List (Int × List Int)) (Ls : List (List Int)) : Asn := (blockA pb (pObj qb S)).star (queueA qb hb ws kd ds Ls)

section
variable {w0 w : World} {F0 : List Nat} {pb qb hb : Nat} {S : Int} {ws : List Int} {kd : List PK} {ds : List (Int × List Int)} {Ls : List (List Int)}
theorem Has.pcells (h : Has w0 F0 (prefA pb qb hb S ws kd ds Ls) w) : w.cell? ⟨pb, 0, none⟩ = some (.pointer (some ⟨qb, 0, none⟩)) ∧ w.cell? ⟨pb, 1, none⟩ = some (.int .i64 S) ∧ w.frozen? ⟨pb, 1, none⟩ = false ∧ w.cell? ⟨qb, 0, none⟩ = some (.pointer (some ⟨hb, 0, none⟩)) := by
  have h1 : w.heap[pb]? = some (pObj qb S) := h.fst.fact (fun _ h => h.2)
  obtain ⟨va, vc, hr⟩ := h.snd.qraw
  obtain ⟨c0, _⟩ := hr.qcells
  unfold pObj at h1
  exact ⟨by simp [World.cell?, h1], by simp [World.cell?, h1], by simp [World.frozen?, h1], c0⟩
theorem Has.pheap (h : Has w0 F0 (prefA pb qb hb S ws kd ds Ls) w) : Has w0 F0 (heapA hb ws kd ds) w := h.snd.qheap
theorem Has.pfine (h : Has w0 F0 (prefA pb qb hb S ws kd ds Ls) w) : Fine ws kd ds := h.pheap.fine
/-- A call on the heap alone. -/
theorem has_pheap {P : Program} {f : FuncId} {args : Array Value} {ws' : List Int} {kd' : List PK} {ds' : List (Int × List Int)} {Q : Ending → World → Prop} (h : Has w0 F0 (prefA pb qb hb S ws kd ds Ls) w) (hc : ∀ F, Has w F (heapA hb ws kd ds) w → Calls P f args w fun e w' => Q e w' ∧ Has w F (heapA hb ws' kd' ds') w') :
    Calls P f args w fun e w' => Q e w' ∧ Has w0 F0 (prefA pb qb hb S ws' kd' ds' Ls) w' := has_right h (fun _ h => has_qheap h hc)
/-- A call on the queues alone. -/
theorem has_pqueue {P : Program} {f : FuncId} {args : Array Value} {ws' : List Int} {kd' : List PK} {ds' : List (Int × List Int)} {Ls' : List (List Int)} {Q : Ending → World → Prop} (h : Has w0 F0 (prefA pb qb hb S ws kd ds Ls) w) (hc : ∀ F, Has w F (queueA qb hb ws kd ds Ls) w → Calls P f args w fun e w' => Q e w' ∧ Has w F (queueA qb hb ws' kd' ds' Ls') w') :
    Calls P f args w fun e w' => Q e w' ∧ Has w0 F0 (prefA pb qb hb S ws' kd' ds' Ls') w' := has_right h hc

set_option maxHeartbeats 800000 in
theorem pheap (w : World) (c0 : w.cell? ⟨pb, 0, none⟩ = some (.pointer (some ⟨qb, 0, none⟩))) (q0 : w.cell? ⟨qb, 0, none⟩ = some (.pointer (some ⟨hb, 0, none⟩))) :
    Calls Tryz.prog 63 #[.pointer (some ⟨pb, 0, none⟩)] w fun e w' => e = .returned (.pointer (some ⟨hb, 0, none⟩)) ∧ w = w' := by
  go_enter Tryz.func63, Tryz.ntmps63
  go_wp2_with fail
  go_ret
  exact ⟨rfl, rfl⟩
set_option maxHeartbeats 800000 in
theorem pheap_nil (w : World) :
    Calls Tryz.prog 63 #[.pointer none] w fun e w' => e = .returned (.pointer none) ∧ w = w' := by
  go_enter Tryz.func63, Tryz.ntmps63
  go_wp2_with fail
  go_ret
  exact ⟨rfl, rfl⟩

set_option maxHeartbeats 1600000 in
theorem pstr (a c : Int) (w : World) (h : Has w0 F0 (prefA pb qb hb S ws kd ds Ls) w) (hT : StrT kd ws a c) :
    Calls Tryz.prog 36 #[.pointer (some ⟨pb, 0, none⟩), .int .i64 a] w fun e w' => e = .returned (.int .i64 c) ∧ Keep [] w w' := by
  obtain ⟨c0, _, _, q0⟩ := h.pcells
  have HC := hid c0
  have HC1 := hid q0
  have HH := hid h.pheap
  clear h c0 q0
  cases hT with
  | no k c l E f hH hk =>
    have HT := hid hH
    have hd : (k == 4) = false := by simpa using hk
    clear hH hk
    go_enter Tryz.func36, Tryz.ntmps36
    go_wp2_with (first | (go_at_call 63; refine (pheap _ HC.out HC1.out).mono ?_; rintro e w1 ⟨rfl, rfl⟩) | (go_at_call 48; refine (ohead a k c l E f _ HH.out HT.out).mono ?_; rintro e w1 ⟨rfl, hK1⟩; have hy := heap_alloc_new w1 (.cells #[.int .i64 k, .int .i64 c, .int .i64 l, .bool f] 67); obtain ⟨g0, g1, g2, g3⟩ := four_cells hy))
    go_ret
    exact ⟨rfl, hK1.trans (Keep.alloc [] _ _)⟩
  | yes b c e hR =>
    subst e
    have HT := hid hR.headT
    clear hR
    go_enter Tryz.func36, Tryz.ntmps36
    go_wp2_with (first | (go_at_call 63; refine (pheap _ HC.out HC1.out).mono ?_; rintro e w1 ⟨rfl, rfl⟩) | (go_at_call 48; refine (ohead b 4 c 5 0 false _ HH.out HT.out).mono ?_; rintro e w1 ⟨rfl, hK1⟩; have hy := heap_alloc_new w1 (.cells #[.int .i64 4, .int .i64 c, .int .i64 5, .bool false] 67); obtain ⟨g0, g1, g2, g3⟩ := four_cells hy))
    go_ret
    exact ⟨rfl, hK1.trans (Keep.alloc [] _ _)⟩
set_option maxHeartbeats 1600000 in
theorem pstr_nil (a : Int) (w : World) :
    Calls Tryz.prog 36 #[.pointer none, .int .i64 a] w fun e w' => e = .returned (.int .i64 0) ∧ Keep [] w w' := by
  go_enter Tryz.func36, Tryz.ntmps36
  go_wp2_with (first | (go_at_call 63; refine (pheap_nil _).mono ?_; rintro e w1 ⟨rfl, rfl⟩) | (go_at_call 48; refine (ohead_nil a _).mono ?_; rintro e w1 ⟨rfl, hK1⟩; have hy := heap_alloc_new w1 (.cells #[.int .i64 0, .int .i64 0, .int .i64 0, .bool false] 67); obtain ⟨g0, g1, g2, g3⟩ := four_cells hy))
  go_ret
  exact ⟨rfl, hK1.trans (Keep.alloc [] _ _)⟩

set_option maxHeartbeats 3200000 in
theorem pmay (n : Nat) (s a q E : Int) (w : World) (h : Has w0 F0 (prefA pb qb hb S ws kd ds Ls) w) (hn : Ls.length = n) (hT : MayT kd ws n s a q E) :
    Calls Tryz.prog 32 #[.pointer (some ⟨pb, 0, none⟩), .int .i64 s, .int .i64 a, .int .i64 q] w fun e w' => e = .returned (.int .i64 E) ∧ Keep [] w w' := by
  obtain ⟨c0, _, _, q0⟩ := h.pcells
  have HC := hid c0
  have HC1 := hid q0
  have HH := hid h.pheap
  have HQ := hid (show ∀ w', Keep [] w w' → Calls Tryz.prog 62 #[.pointer (some ⟨qb, 0, none⟩)] w' (fun e w'' => e = .returned (.int .i64 n) ∧ w' = w'') from fun w' K => by rw [← hn]; exact qqueues w' (h.snd.keep0 K))
  clear h q0 hn
  cases hT with
  | str hs =>
    by_cases h1 : s < 1
    · go_enter Tryz.func32, Tryz.ntmps32
      go_wp2_with fail
      go_ret
      exact ⟨rfl, Keep.refl _ _⟩
    · have h2 : 3 < s := by omega
      clear hs
      go_enter Tryz.func32, Tryz.ntmps32
      go_wp2_with fail
      go_ret
      exact ⟨rfl, Keep.refl _ _⟩
  | none h1 h2 h3 =>
    have d1 : decide (s < 1) = false := decide_eq_false (by omega)
    have d2 : decide (3 < s) = false := decide_eq_false (by omega)
    by_cases h4 : q < -1
    · clear h3
      go_enter Tryz.func32, Tryz.ntmps32
      go_wp2_with fail
      go_ret
      exact ⟨rfl, Keep.refl _ _⟩
    · have d3 : decide (q < -1) = false := decide_eq_false h4
      have d4 : decide ((n : Int) ≤ q) = true := decide_eq_true (by omega)
      clear h3
      go_enter Tryz.func32, Tryz.ntmps32
      go_wp2_with (first | (go_at_call 62; refine (HQ.out _ (Keep.refl _ _)).mono ?_; rintro e w1 ⟨rfl, rfl⟩))
      go_ret
      exact ⟨rfl, Keep.refl _ _⟩
  | ph h1 h2 =>
    subst h1
    subst h2
    have d4 : decide ((n : Int) ≤ -1) = false := decide_eq_false (by omega)
    go_enter Tryz.func32, Tryz.ntmps32
    go_wp2_with (first | (go_at_call 62; refine (HQ.out _ (Keep.refl _ _)).mono ?_; rintro e w1 ⟨rfl, rfl⟩))
    go_ret
    exact ⟨rfl, Keep.refl _ _⟩
  | head k c l E f h1 h2 h3 h4 h5 hH =>
    have HT := hid hH
    have d1 : decide (s < 1) = false := decide_eq_false (by omega)
    have d2 : decide (3 < s) = false := decide_eq_false (by omega)
    have d3 : decide (q < -1) = false := decide_eq_false (by omega)
    have d4 : decide ((n : Int) ≤ q) = false := decide_eq_false (by omega)
    by_cases hs : s = 3
    · have e1 : (s == 3) = true := by simpa using hs
      have e2 : (q == -1) = false := by rw [beq_eq_false_iff_ne]; exact fun e => h5 ⟨hs, e⟩
      clear hH hs h5
      go_enter Tryz.func32, Tryz.ntmps32
      go_wp2_with (first | (go_at_call 62; refine (HQ.out _ (Keep.refl _ _)).mono ?_; rintro e w1 ⟨rfl, rfl⟩) | (go_at_call 63; refine (pheap _ HC.out HC1.out).mono ?_; rintro e w1 ⟨rfl, rfl⟩) | (go_at_call 48; refine (ohead a k c l E f _ HH.out HT.out).mono ?_; rintro e w1 ⟨rfl, hK1⟩))
      go_ret
      exact ⟨rfl, hK1.trans (Keep.alloc [] _ _)⟩
    · have e1 : (s == 3) = false := by rw [beq_eq_false_iff_ne]; exact hs
      clear hH hs h5
      go_enter Tryz.func32, Tryz.ntmps32
      go_wp2_with (first | (go_at_call 62; refine (HQ.out _ (Keep.refl _ _)).mono ?_; rintro e w1 ⟨rfl, rfl⟩) | (go_at_call 63; refine (pheap _ HC.out HC1.out).mono ?_; rintro e w1 ⟨rfl, rfl⟩) | (go_at_call 48; refine (ohead a k c l E f _ HH.out HT.out).mono ?_; rintro e w1 ⟨rfl, hK1⟩))
      go_ret
      exact ⟨rfl, hK1.trans (Keep.alloc [] _ _)⟩

set_option maxHeartbeats 800000 in
theorem pserial (w : World) (h : Has w0 F0 (prefA pb qb hb S ws kd ds Ls) w) :
    Calls Tryz.prog 17 #[.pointer (some ⟨pb, 0, none⟩)] w fun e w' => e = .returned (.int .i64 S) ∧ w = w' := by
  obtain ⟨_, c1, _, _⟩ := h.pcells
  clear h
  go_enter Tryz.func17, Tryz.ntmps17
  go_wp2_with fail
  go_ret
  exact ⟨rfl, rfl⟩
set_option maxHeartbeats 800000 in
theorem pserial_nil (w : World) :
    Calls Tryz.prog 17 #[.pointer none] w fun e w' => e = .returned (.int .i64 0) ∧ w = w' := by
  go_enter Tryz.func17, Tryz.ntmps17
  go_wp2_with fail
  go_ret
  exact ⟨rfl, rfl⟩
set_option maxHeartbeats 1600000 in
theorem pnew (w : World) (h : Has w0 F0 (heapA hb ws kd ds) w) :
    Calls Tryz.prog 26 #[.pointer (some ⟨hb, 0, none⟩)] w fun e w' => ∃ pb qb, e = .returned (.pointer (some ⟨pb, 0, none⟩)) ∧ Has w0 F0 (prefA pb qb hb 0 ws kd ds []) w' := by
  have HH := hid h
  clear h
  go_enter Tryz.func26, Tryz.ntmps26
  go_wp2_with (first | (go_at_call 53; refine (qnew _ HH.out).mono ?_; rintro e w1 ⟨qb, rfl, hQ1⟩))
  go_ret
  exact ⟨_, qb, rfl, (hQ1.newB (pObj qb 0)).comm⟩
set_option maxHeartbeats 800000 in
theorem pnew_nil (w : World) :
    Calls Tryz.prog 26 #[.pointer none] w fun e w' => e = .returned (.pointer none) ∧ w = w' := by
  go_enter Tryz.func26, Tryz.ntmps26
  go_wp2_with fail
  go_ret
  exact ⟨rfl, rfl⟩

set_option maxHeartbeats 3200000 in
theorem pread (a t N E : Int) (ws' : List Int) (w : World) (h : Has w0 F0 (prefA pb qb hb S ws kd ds Ls) w) (hT : ReadT kd ws a t N E ws') (ht : inI t) :
    Calls Tryz.prog 9 #[.pointer (some ⟨pb, 0, none⟩), .int .i64 a, .int .i64 t] w fun e w' => e = .returned (.tuple #[.int .i64 N, .int .i64 E]) ∧ Has w0 F0 (prefA pb qb hb S ws' kd ds Ls) w' := by
  have HX := hid h
  have hf := h.pfine
  cases hT with
  | kind hS =>
    have HS := hid hS
    clear h hS hf
    go_enter Tryz.func9, Tryz.ntmps9
    go_wp2_with (first | (go_at_call 36; refine (pstr a 0 _ HX.out HS.out).mono ?_; rintro e w1 ⟨rfl, hK1⟩))
    go_ret2
    exact ⟨rfl, HX.out.keep0 hK1⟩
  | ph b e hR =>
    have HS := (show Hid (StrT kd ws a 3) from .yes b 3 e hR)
    clear h hR hf e
    go_enter Tryz.func9, Tryz.ntmps9
    go_wp2_with (first | (go_at_call 36; refine (pstr a 3 _ HX.out HS.out).mono ?_; rintro e w1 ⟨rfl, hK1⟩))
    go_ret2
    exact ⟨rfl, HX.out.keep0 hK1⟩
  | plain b c N e hR hc3 hN hor =>
    subst e
    have HS := (show Hid (StrT kd ws (b : Int) c) from .yes b c rfl hR)
    have HF := (show Hid (FieldT kd ws (b : Int) 0 N 0) from by
      have := hR.field hf 0 (by omega)
      rw [show b + 1 + 0 = b + 1 from rfl, hN] at this
      exact this)
    have hc := hR.cls
    have e0 : (c == 0) = false := by rw [beq_eq_false_iff_ne]; omega
    have e3 : (c == 3) = false := by rw [beq_eq_false_iff_ne]; exact hc3
    clear h hf hR hN hc hc3
    by_cases hc1 : c = 1
    · have e1 : (c == 1) = true := by simpa using hc1
      have hN0 : N = 0 := by rcases hor with h | h; exact absurd hc1 h; exact h
      subst hN0
      clear hor hc1
      go_enter Tryz.func9, Tryz.ntmps9
      go_wp2_with (first | (go_at_call 36; refine (pstr b c _ HX.out HS.out).mono ?_; rintro e w1 ⟨rfl, hK1⟩; obtain ⟨c0, _, _, q0⟩ := (HX.out.keep0 hK1).pcells) | (go_at_call 37; refine (ofield b 0 0 0 _ (HX.out.keep0 hK1).pheap HF.out).mono ?_; rintro e w2 ⟨rfl, hK2⟩))
      go_ret2
      exact ⟨rfl, (HX.out.keep0 hK1).keep0 hK2⟩
    · have e1 : (c == 1) = false := by rw [beq_eq_false_iff_ne]; exact hc1
      clear hor hc1
      go_enter Tryz.func9, Tryz.ntmps9
      go_wp2_with (first | (go_at_call 36; refine (pstr b c _ HX.out HS.out).mono ?_; rintro e w1 ⟨rfl, hK1⟩; obtain ⟨c0, _, _, q0⟩ := (HX.out.keep0 hK1).pcells) | (go_at_call 37; refine (ofield b 0 N 0 _ (HX.out.keep0 hK1).pheap HF.out).mono ?_; rintro e w2 ⟨rfl, hK2⟩))
      go_ret2
      exact ⟨rfl, (HX.out.keep0 hK1).keep0 hK2⟩
  | soft b N e hR hN hN0 =>
    subst e
    have HS := (show Hid (StrT kd ws (b : Int) 1) from .yes b 1 rfl hR)
    have HF := (show Hid (FieldT kd ws (b : Int) 0 N 0) from by
      have := hR.field hf 0 (by omega)
      rw [show b + 1 + 0 = b + 1 from rfl, hN] at this
      exact this)
    have HP := (show Hid (PutT kd ws (b : Int) 3 t 0 (ws.set (b + 4) t)) from hR.put hf 3 (by omega) t)
    have en : (N != 0) = true := by simpa using hN0
    have en' : (N == 0) = false := by simpa using hN0
    clear h hf hR hN hN0
    go_enter Tryz.func9, Tryz.ntmps9
    go_wp2_with (first | (go_at_call 36; refine (pstr b 1 _ HX.out HS.out).mono ?_; rintro e w1 ⟨rfl, hK1⟩; obtain ⟨c0, _, _, q0⟩ := (HX.out.keep0 hK1).pcells) | (go_at_call 37; refine (ofield b 0 N 0 _ (HX.out.keep0 hK1).pheap HF.out).mono ?_; rintro e w2 ⟨rfl, hK2⟩; have HX2 := hid ((HX.out.keep0 hK1).keep0 hK2); obtain ⟨c02, _, _, q02⟩ := HX2.out.pcells) | (go_at_call 33; refine (has_pheap HX2.out (fun F hF => oput b 3 t 0 _ _ hF HP.out ht)).mono ?_; rintro e w3 ⟨rfl, hX3⟩))
    go_ret2
    exact ⟨rfl, hX3⟩
set_option maxHeartbeats 1600000 in
theorem pread_nil (a t : Int) (w : World) :
    Calls Tryz.prog 9 #[.pointer none, .int .i64 a, .int .i64 t] w fun e w' => e = .returned (.tuple #[.int .i64 0, .int .i64 5]) ∧ Keep [] w w' := by
  go_enter Tryz.func9, Tryz.ntmps9
  go_wp2_with (first | (go_at_call 36; refine (pstr_nil a _).mono ?_; rintro e w1 ⟨rfl, hK1⟩))
  go_ret2
  exact ⟨rfl, hK1⟩
end

end Go.Proofs.YtamcoejlghfleaaGreat

/-
  A list of integers that nothing turns, as a part of memory beside others.
-/
namespace Go.Proofs.YtamcoejlghfleaaGreat
open Go.RowKit

def listA (la : Option Addr) (L : List Int) : Asn where
  at' w F := F = la.toList.map (·.block) ∧ IntsAt w la L ∧ ∀ a, la = some a → a.block < w.heap.size
  keep := fun h K hS => ⟨h.1, h.2.1.keep K (fun _ a e => hS _ (by rw [h.1, e]; simp)), fun a e => Nat.lt_of_lt_of_le (h.2.2 a e) K.size⟩
  lt := fun h k hk => by
    rw [h.1] at hk
    simp at hk
    obtain ⟨a, e, rfl⟩ := hk
    exact h.2.2 a e
theorem Has.list {w0 w : World} {F0 : List Nat} {la : Option Addr} {L : List Int} (h : Has w0 F0 (listA la L) w) : IntsAt w la L := h.fact (fun _ h => h.2.1)
/-- A list that was made since w beside what there is. -/
theorem Has.listed {w0 w w' : World} {F0 : List Nat} {A : Asn} {v : Value} {n : Nat} {L : List Int} {t : TypeId} (h : Has w0 F0 A w) (K : Keep [] w w') (ho : w'.ownsRow w.heap.size t 1 v n (ints L)) (hb : ∀ i : Nat, -9223372036854775808 ≤ L[i]?.getD 0 ∧ L[i]?.getD 0 ≤ 9223372036854775807) :
    ∃ la lc, v = .slice la L.length lc ∧ (la = none → lc = 0) ∧ Has w0 F0 (A.star (listA la L)) w' := by
  rcases own_ints ho hb with ⟨rfl, rfl, _⟩ | ⟨g, cap, rfl, _, h2, h3, h4⟩
  · exact ⟨none, 0, rfl, fun _ => rfl, h.more K (G := []) ⟨rfl, IntsAt.nil _ _, by simp⟩ (by simp)⟩
  · exact ⟨some ⟨g, 0, none⟩, cap, rfl, by simp, h.more K (G := [g]) ⟨rfl, h4, fun a e => by cases e; exact h3⟩ (by simpa using h2)⟩

end Go.Proofs.YtamcoejlghfleaaGreat

/-
  Package ref: what Refer, Clear and Enqueue answer and leave.
-/
namespace Go.Proofs.YtamcoejlghfleaaGreat
open Go.RowKit

section
variable {w0 w : World} {F0 : List Nat} {pb qb hb : Nat} {S : Int} {ws : List Int} {kd : List PK} {ds : List (Int × List Int)} {Ls : List (List Int)}
/-- How many were made is one more. -/
theorem Has.pmade (h : Has w0 F0 (prefA pb qb hb S ws kd ds Ls) w) (T : Int) : Has w0 F0 (prefA pb qb hb T ws kd ds Ls) (w.setCell ⟨pb, 1, none⟩ (.int .i64 T)) := by
  have hb4 : w.heap[pb]? = some (pObj qb S) := h.fst.fact (fun _ h => h.2)
  have hb5 := heap_setCell_same w pb 1 _ _ (.int .i64 T) hb4
  exact h.setB (o' := pObj qb T) (Keep.setCell (S := [pb]) w (a := ⟨pb, 1, none⟩) (.int .i64 T) (by simp)) (by simpa [pObj] using hb5)

set_option maxRecDepth 100000 in
set_option maxHeartbeats 3200000 in
theorem prefer (n : Nat) (s a q t N E S' : Int) (ws' : List Int) (kd' : List PK) (w : World) (h : Has w0 F0 (prefA pb qb hb S ws kd ds Ls) w) (hn : Ls.length = n) (hT : ReferT kd ws ds n S s a q t N E ws' kd' S') (ha : inI a) (ht : inI t) (hS : 0 ≤ S ∧ S < 1000000) :
    Calls Tryz.prog 6 #[.pointer (some ⟨pb, 0, none⟩), .int .i64 s, .int .i64 a, .int .i64 q, .int .i64 t] w fun e w' => e = .returned (.tuple #[.int .i64 N, .int .i64 E]) ∧ Has w0 F0 (prefA pb qb hb S' ws' kd' ds Ls) w' := by
  have HX := hid h
  have HN := hid hn
  cases hT with
  | may E hM hE =>
    have HM := hid hM
    have hd : (E != 0) = true := by simpa using hE
    have hd' : (E == 0) = false := by simpa using hE
    clear h hn hM hE
    go_enter Tryz.func6, Tryz.ntmps6
    go_wp2_with (first | (go_at_call 32; refine (pmay n s a q E _ HX.out HN.out HM.out).mono ?_; rintro e w1 ⟨rfl, hK1⟩))
    go_ret2
    exact ⟨rfl, HX.out.keep0 hK1⟩
  | full E hM hMk hE =>
    have HM := hid hM
    have HK := hid hMk
    have hd : (E != 0) = true := by simpa using hE
    have hd' : (E == 0) = false := by simpa using hE
    clear h hn hM hE hMk
    go_enter Tryz.func6, Tryz.ntmps6
    go_wp2_with (first | (go_at_call 32; refine (pmay n s a q 0 _ HX.out HN.out HM.out).mono ?_; rintro e w1 ⟨rfl, hK1⟩; obtain ⟨c0, _, _, q0⟩ := (HX.out.keep0 hK1).pcells) | (go_at_call 27; refine (has_pheap (HX.out.keep0 hK1) (fun F hF => omake 4 s 5 0 E false _ _ _ hF HK.out)).mono ?_; rintro e w2 ⟨rfl, hX2⟩))
    go_ret2
    exact ⟨rfl, hX2⟩
  | yes b ws1 kd' hM hMk hR =>
    have hz := hM.zero
    have hn8 : n ≤ 8 := by rw [← hn]; exact h.snd.qok.1
    have hS1 : inI (S + 1) := ⟨by omega, by omega⟩
    obtain ⟨_, hf1, _⟩ := hMk.ref h.pfine
    obtain ⟨p0, p1, p3, p4, _, _⟩ := hR.madeW hf1 ha (q := q) ⟨by omega, by omega⟩ ht hS1
    have HM := hid hM
    have HK := hid hMk
    have HP0 := hid p0
    have HP1 := hid p1
    have HP3 := hid p3
    have HP4 := hid p4
    have HA := hid ha
    have HT := hid ht
    have HQ := (show Hid (inI (q + 1)) from ⟨by omega, by omega⟩)
    have HS1 := hid hS1
    have hq1 : -1 ≤ q := hz.2.2.1
    have hq2 : q < 8 := by omega
    obtain ⟨hS0, hS2⟩ := hS
    clear h hn hM hMk hR hz hn8 hS1 hf1 p0 p1 p3 p4 ha ht
    go_enter Tryz.func6, Tryz.ntmps6
    go_upto_region 9 with (first | (go_at_call 32; refine (pmay n s a q 0 _ HX.out HN.out HM.out).mono ?_; rintro e w1 ⟨rfl, hK1⟩; obtain ⟨c0, _, _, q0⟩ := (HX.out.keep0 hK1).pcells) | (go_at_call 27; refine (has_pheap (HX.out.keep0 hK1) (fun F hF => omake 4 s 5 b 0 false _ _ _ hF HK.out)).mono ?_; rintro e w2 ⟨rfl, hX2⟩))
    obtain ⟨_, c12, f12, _⟩ := hX2.pcells
    have HX3 := hid (hX2.pmade (S + 1))
    clear hX2 c0 q0 hK1 HX HK HM
    go_upto_region 10 with fail
    clear c12 f12
    generalize w2.setCell ⟨pb, 1, none⟩ (.int .i64 (S + 1)) = w3 at *
    obtain ⟨c0, _, _, q0⟩ := HX3.out.pcells
    go_upto_region 11 with (first | (go_at_call 33; refine (has_pheap HX3.out (fun F hF => oput b 0 a 0 _ _ hF HP0.out HA.out)).mono ?_; rintro e w4 ⟨rfl, hX4⟩))
    have HX4 := hid hX4
    clear hX4 HX3 c0 q0
    obtain ⟨c0, _, _, q0⟩ := HX4.out.pcells
    go_upto_region 12 with (first | (go_at_call 33; refine (has_pheap HX4.out (fun F hF => oput b 1 (q + 1) 0 _ _ hF HP1.out HQ.out)).mono ?_; rintro e w5 ⟨rfl, hX5⟩))
    have HX5 := hid hX5
    clear hX5 HX4 c0 q0
    obtain ⟨c0, _, _, q0⟩ := HX5.out.pcells
    go_upto_region 13 with (first | (go_at_call 33; refine (has_pheap HX5.out (fun F hF => oput b 3 t 0 _ _ hF HP3.out HT.out)).mono ?_; rintro e w6 ⟨rfl, hX6⟩))
    have HX6 := hid hX6
    clear hX6 HX5 c0 q0
    obtain ⟨c0, c1, _, q0⟩ := HX6.out.pcells
    go_region_law (first | (go_simp; refine (has_pheap (HX6.out.keep0 (Keep.drew [] _)) (fun F hF => oput b 4 (S + 1) 0 _ _ hF HP4.out HS1.out)).mono ?_; rintro e w7 ⟨rfl, hX7⟩))
    all_goals (go_wp2_with fail)
    all_goals go_ret2
    all_goals exact ⟨rfl, hX7⟩
set_option maxHeartbeats 800000 in
theorem prefer_nil (s a q t : Int) (w : World) :
    Calls Tryz.prog 6 #[.pointer none, .int .i64 s, .int .i64 a, .int .i64 q, .int .i64 t] w fun e w' => e = .returned (.tuple #[.int .i64 0, .int .i64 2]) ∧ w = w' := by
  go_enter Tryz.func6, Tryz.ntmps6
  go_wp2_with fail
  go_ret2
  exact ⟨rfl, rfl⟩

set_option maxRecDepth 100000 in
set_option maxHeartbeats 3200000 in
theorem pclear {B : Asn} (la : Option Addr) (n cp : Nat) (L : List Int) (E : Int) (ws' : List Int) (w : World) (h : Has w0 F0 ((prefA pb qb hb S ws kd ds Ls).star B) w) (hB : ∀ w F, B.at' w F → IntsAt w la L) (hn : L.length = n) (hn6 : n ≤ 1000000) (hT : ClearT kd ws L E ws') :
    Calls Tryz.prog 11 #[.pointer (some ⟨pb, 0, none⟩), .slice la n cp] w fun e w' => e = .returned (.int .i64 E) ∧ Has w0 F0 ((prefA pb qb hb S ws' kd ds Ls).star B) w' := by
  have HX := hid h
  have HN := hid hn
  have HB := hid hB
  clear hB
  have HFI := hid h.fst.pfine
  cases hT with
  | kind j0 hj0 hR hS =>
    have HR := hid hR
    have HS := hid hS
    have hjn : j0 < n := by omega
    clear h hn hR hS hj0
    go_enter Tryz.func11, Tryz.ntmps11
    go_wp2_with fail
    go_loopw [13] (fun i wr => ∃ j : Nat, i = .int .i64 j ∧ j ≤ j0 ∧ Hid (Keep [] w wr)) (fun i _ => j0 - (intOf i).toNat)
    case atStart => exact ⟨0, rfl, by omega, Keep.refl _ _⟩
    case round =>
      obtain ⟨j, rfl, hj, HK⟩ := hrel
      obtain ⟨w1, rfl⟩ : ∃ w1, w1 = wr := ⟨_, rfl⟩
      have HX1 := hid (HX.out.keep0 HK.out)
      have hlt : j < n := by omega
      have hd : decide (j < n) = true := decide_eq_true hlt
      have hd' : decide ((j : Int) < (n : Int)) = true := decide_eq_true (by omega)
      obtain ⟨lb, lo, rfl, _, hcs⟩ := (HX1.out.snd.fact (fun F h => HB.out _ F h)).cells (by have := HN.out; omega)
      have hc := hcs j (by have := HN.out; omega)
      by_cases he : j < j0
      · obtain ⟨b, c, e, hR⟩ := HR.out j he
        rw [e] at hc
        have HST := (show Hid (StrT kd ws (b : Int) c) from .yes b c rfl hR)
        have hcc := hR.cls
        have e0 : (c == 0) = false := by rw [beq_eq_false_iff_ne]; omega
        clear hcs e hR hcc
        go_wp2_with (first | (go_at_call 36; refine (pstr b c _ HX1.out.fst HST.out).mono ?_; rintro e w2 ⟨rfl, hK2⟩))
        go_roundw
        case rel => exact ⟨j + 1, by go_num, by omega, HK.out.trans hK2⟩
        case measure => simp [intOf]; omega
      · obtain rfl : j = j0 := by omega
        clear hcs
        generalize L[j]?.getD 0 = y at *
        go_wp2_with (first | (go_at_call 36; refine (pstr y 0 _ HX1.out.fst HS.out).mono ?_; rintro e w2 ⟨rfl, hK2⟩))
        go_ret
        exact ⟨rfl, HX1.out.keep0 hK2⟩
  | yes hR =>
    have HR := hid hR
    clear h hn hR
    go_enter Tryz.func11, Tryz.ntmps11
    go_wp2_with fail
    go_loopw [13] (fun i wr => ∃ j : Nat, i = .int .i64 j ∧ j ≤ n ∧ Hid (Keep [] w wr)) (fun i _ => n - (intOf i).toNat)
    case atStart => exact ⟨0, rfl, by omega, Keep.refl _ _⟩
    case round =>
      obtain ⟨j, rfl, hj, HK⟩ := hrel
      obtain ⟨w1, rfl⟩ : ∃ w1, w1 = wr := ⟨_, rfl⟩
      have HX1 := hid (HX.out.keep0 HK.out)
      by_cases hlt : j < n
      · have hd : decide (j < n) = true := decide_eq_true hlt
        have hd' : decide ((j : Int) < (n : Int)) = true := decide_eq_true (by omega)
        obtain ⟨lb, lo, rfl, _, hcs⟩ := (HX1.out.snd.fact (fun F h => HB.out _ F h)).cells (by have := HN.out; omega)
        have hc := hcs j (by have := HN.out; omega)
        obtain ⟨b, c, e, hR⟩ := HR.out j (by have := HN.out; omega)
        rw [e] at hc
        have HST := (show Hid (StrT kd ws (b : Int) c) from .yes b c rfl hR)
        have hcc := hR.cls
        have e0 : (c == 0) = false := by rw [beq_eq_false_iff_ne]; omega
        clear hcs e hR hcc
        go_wp2_with (first | (go_at_call 36; refine (pstr b c _ HX1.out.fst HST.out).mono ?_; rintro e w2 ⟨rfl, hK2⟩))
        go_roundw
        case rel => exact ⟨j + 1, by go_num, by omega, HK.out.trans hK2⟩
        case measure => simp [intOf]; omega
      · have hd : decide (j < n) = false := decide_eq_false hlt
        have hd' : decide ((j : Int) < (n : Int)) = false := decide_eq_false (by omega)
        have HX2 := (show Hid (Has w0 F0 ((prefA pb qb hb S (clrN ws L 0) kd ds Ls).star B) w1) from HX1.out)
        clear HX HK HX1 hlt
        go_wp2_with fail
        go_loopw [24] (fun i wr => ∃ k : Nat, i = .int .i64 k ∧ k ≤ n ∧ Hid (Has w0 F0 ((prefA pb qb hb S (clrN ws L k) kd ds Ls).star B) wr)) (fun i _ => n - (intOf i).toNat)
        case atStart => exact ⟨0, rfl, by omega, HX2⟩
        case round =>
          obtain ⟨k, rfl, hk, HX3⟩ := hrel
          obtain ⟨w3, rfl⟩ : ∃ w3, w3 = wr := ⟨_, rfl⟩
          clear HX2 hd hd' hj
          by_cases hlt : k < n
          · have hd : decide (k < n) = true := decide_eq_true hlt
            have hd' : decide ((k : Int) < (n : Int)) = true := decide_eq_true (by omega)
            obtain ⟨lb, lo, rfl, _, hcs⟩ := (HX3.out.snd.fact (fun F h => HB.out _ F h)).cells (by have := HN.out; omega)
            have hc := hcs k (by have := HN.out; omega)
            have HP := hid (clrN_put HFI.out HR.out k (by have := HN.out; omega))
            obtain ⟨c0, _, _, q0⟩ := HX3.out.fst.pcells
            generalize L[k]?.getD 0 = y at *
            clear hcs
            go_wp2_with (first | (go_at_call 33; refine (has_left HX3.out (fun F hF => has_pheap hF (fun F hF => oput y 0 0 0 _ _ hF HP.out inI_0))).mono ?_; rintro e w4 ⟨rfl, hX4⟩))
            go_roundw
            case rel => exact ⟨k + 1, by go_num, by omega, hX4⟩
            case measure => simp [intOf]; omega
          · obtain rfl : k = n := by omega
            have hd : decide (k < k) = false := decide_eq_false hlt
            have hd' : decide ((k : Int) < (k : Int)) = false := decide_eq_false (by omega)
            go_wp2_with fail
            go_ret
            rw [HN.out]
            exact ⟨rfl, HX3.out⟩

/-- A list of one that is new. -/
theorem Has.single {A : Asn} (h : Has w0 F0 A w) (a : Int) (ha : inI a) : Has w0 F0 (A.star (listA (some ⟨w.heap.size, 0, none⟩) [a])) (w.alloc (.cells #[.int .i64 a] 3)) :=
  h.more (Keep.alloc [] w _) (G := [w.heap.size]) ⟨rfl, IntsAt.single w _ a ha.1 ha.2, fun x e => by cases e; simp⟩ (fun k hk => by simp at hk; omega)
/-- Clear of one. -/
theorem clear_one {a E : Int} {ws' : List Int} (hT : ClearT kd ws [a] E ws') : (StrT kd ws a 0 ∧ E = 5 ∧ ws' = ws) ∨ ∃ (b : Nat) (c : Int), a = b ∧ RefC kd ws b c ∧ E = 0 ∧ ws' = ws.set (b + 1) 0 := by
  cases hT with
  | kind j hj _ hS =>
    obtain rfl : j = 0 := by simp at hj; omega
    exact .inl ⟨hS, rfl, rfl⟩
  | yes h =>
    obtain ⟨b, c, e, hR⟩ := h 0 (by simp)
    have e' : a = b := by simpa using e
    exact .inr ⟨b, c, e', hR, rfl, by simp [clrN, e']⟩
theorem StrT.clear {a : Int} (h : StrT kd ws a 0) : ClearT kd ws [a] 5 ws := .kind 0 (by simp) (fun i hi => by omega) h
theorem RefC.clear {b : Nat} {c : Int} (h : RefC kd ws b c) : ClearT kd ws [(b : Int)] 0 (ws.set (b + 1) 0) :=
  .yes (fun i hi => by
    obtain rfl : i = 0 := by simp at hi; omega
    exact ⟨b, c, rfl, h⟩)

set_option maxRecDepth 100000 in
set_option maxHeartbeats 3200000 in
theorem penq (a E : Int) (g : Bool) (ws' : List Int) (Ls' : List (List Int)) (w : World) (h : Has w0 F0 (prefA pb qb hb S ws kd ds Ls) w) (hT : EnqT kd ws Ls a g E ws' Ls') (ha : inI a) (hl : ∀ L, L ∈ Ls → L.length < 999999) :
    Calls Tryz.prog 13 #[.pointer (some ⟨pb, 0, none⟩), .int .i64 a] w fun e w' => e = .returned (.tuple #[.bool g, .int .i64 E]) ∧ Has w0 F0 (prefA pb qb hb S ws' kd ds Ls') w' := by
  have HX := hid (h.single a ha)
  have hf := h.pfine
  cases hT with
  | kind hS =>
    have HS := hid hS.clear
    clear h hS hf
    go_enter Tryz.func13, Tryz.ntmps13
    go_wp2_with (first | (go_at_call 11; refine (pclear _ 1 _ [a] 5 _ _ HX.out (fun _ _ h => h.2.1) rfl (by omega) HS.out).mono ?_; rintro e w1 ⟨rfl, hX1⟩))
    go_ret2
    exact ⟨rfl, hX1.fst⟩
  | no b c e hR hx =>
    subst e
    have HS := hid hR.clear
    have hi := hR.inner hf 0 (by omega)
    have hf2 := hi.fine hf inI_0
    have HF := hid ((hR.set hf.wf hi 0).field hf2 1 (by omega))
    have hx2 : (ws.set (b + 1) 0)[b + 1 + 1]?.getD 0 = ws[b + 2]?.getD 0 := set_get_other _ _ _ _ (by omega)
    obtain ⟨x, hxe⟩ : ∃ x, (ws.set (b + 1) 0)[b + 1 + 1]?.getD 0 = x := ⟨_, rfl⟩
    have hx0 : x ≤ 0 := by omega
    have HF2 := (show Hid (FieldT kd (ws.set (b + 1) 0) (b : Int) 1 x 0) from by rw [← hxe]; exact HF.out)
    clear h hR hf hi hf2 HF hx2 hxe hx
    go_enter Tryz.func13, Tryz.ntmps13
    go_upto_region 4 with (first | (go_at_call 11; refine (pclear _ 1 _ [(b : Int)] 0 _ _ HX.out (fun _ _ h => h.2.1) rfl (by omega) HS.out).mono ?_; rintro e w1 ⟨rfl, hX1⟩))
    have HX1 := hid hX1.fst
    clear hX1 HX
    obtain ⟨c0, _, _, q0⟩ := HX1.out.pcells
    go_wp2_with (first | (go_at_call 37; refine (ofield b 1 x 0 _ HX1.out.pheap HF2.out).mono ?_; rintro e w2 ⟨rfl, hK2⟩))
    go_ret2
    exact ⟨rfl, HX1.out.keep0 hK2⟩
  | yes b c x E ws' Ls' e hR hx hx1 hP hR' =>
    subst e
    have HS := hid hR.clear
    have hi := hR.inner hf 0 (by omega)
    have hf2 := hi.fine hf inI_0
    have HF := hid ((hR.set hf.wf hi 0).field hf2 1 (by omega))
    have hx2 : (ws.set (b + 1) 0)[b + 1 + 1]?.getD 0 = ws[b + 2]?.getD 0 := set_get_other _ _ _ _ (by omega)
    have HF2 := (show Hid (FieldT kd (ws.set (b + 1) 0) (b : Int) 1 x 0) from by rw [← hx, ← hx2]; exact HF.out)
    have HPU := hid hP
    have HR := hid hR'
    have HA := hid ha
    have HL := hid hl
    have hxi : inI x := by rw [← hx]; exact hf.ob.bd _
    obtain ⟨_, hx3⟩ := hxi
    have hd : decide (x ≤ 0) = false := decide_eq_false (by omega)
    clear h hR hf hi hf2 HF hx2 hx hP hR' ha hl
    go_enter Tryz.func13, Tryz.ntmps13
    go_upto_region 4 with (first | (go_at_call 11; refine (pclear _ 1 _ [(b : Int)] 0 _ _ HX.out (fun _ _ h => h.2.1) rfl (by omega) HS.out).mono ?_; rintro e w1 ⟨rfl, hX1⟩))
    have HX1 := hid hX1.fst
    clear hX1 HX HS
    obtain ⟨c0, _, _, q0⟩ := HX1.out.pcells
    go_upto_region 5 with (first | (go_at_call 37; refine (ofield b 1 x 0 _ HX1.out.pheap HF2.out).mono ?_; rintro e w2 ⟨rfl, hK2⟩))
    have HX2 := hid (HX1.out.keep0 hK2)
    clear hK2 HX1 c0 q0 HF2
    obtain ⟨c0, _, _, q0⟩ := HX2.out.pcells
    go_upto_region 8 with (first | (go_at_call 41; refine (has_pqueue HX2.out (fun F hF => qpush (x - 1) b E _ _ _ hF HPU.out HA.out HL.out)).mono ?_; rintro e w3 ⟨rfl, hX3⟩))
    have HX3 := hid hX3
    clear hX3 HX2 c0 q0 HPU
    have HP2 := hid (HR.out.put HX3.out.pfine 1 (by omega) (-1))
    obtain ⟨c0, _, _, q0⟩ := HX3.out.pcells
    go_wp2_with (first | (go_at_call 33; refine (has_pheap HX3.out (fun F hF => oput b 1 (-1) 0 _ _ hF HP2.out ⟨by omega, by omega⟩)).mono ?_; rintro e w4 ⟨rfl, hX4⟩))
    go_ret2
    exact ⟨rfl, hX4⟩
end

end Go.Proofs.YtamcoejlghfleaaGreat

/-
  A region that draws its order and ends with a store: what is read of memory may be read first, if all but the last operation leave it as it is, and the last one waits for all. It speaks of no program.
-/
namespace Go.Proofs.YtamcoejlghfleaaGreat
open Go

/-- Whatever order is picked; S holds behind each operation but the last. -/
def wpAnyL (P : Program) (md : Region.Mode) (ops : Array Oper) (Q : Exit → Act → World → Prop) (S : World → Prop) (last : Nat) : Nat → Array Bool → Act → World → Prop
  | 0, listed, a, w => Region.ready md ops listed = [] ∧ Q .normal a w
  | fuel + 1, listed, a, w =>
    (Region.ready md ops listed = [] → Q .normal a w) ∧
    ∀ i ∈ Region.ready md ops listed, wpOp P ops Q i (fun a' w' => (i ≠ last → S w') ∧ wpAnyL P md ops Q S last fuel (listed.setIfInBounds i true) a' w') a w
/-- The last operation waits for i. -/
def waitsB (md : Region.Mode) (ops : Array Oper) (last i : Nat) : Bool :=
  i != last && match ops[last]? with
    | some o => o.after.any (fun e => Region.binds md e && e.on == i)
    | none => false
section
variable {P : Program} {ops : Array Oper} {Q : Exit → Act → World → Prop} {md : Region.Mode} {S : World → Prop} {last : Nat}
theorem waitsB_spec {i : Nat} (h : waitsB md ops last i = true) : i ≠ last ∧ ∃ o, ops[last]? = some o ∧ ∃ e ∈ o.after, Region.binds md e = true ∧ e.on = i := by
  unfold waitsB at h
  rw [Bool.and_eq_true] at h
  obtain ⟨h1, h2⟩ := h
  refine ⟨by simpa using h1, ?_⟩
  cases ho : ops[last]? with
  | none => rw [ho] at h2; cases h2
  | some o =>
    rw [ho] at h2
    have h2' : o.after.any (fun e => Region.binds md e && e.on == i) = true := h2
    rw [Array.any_eq_true] at h2'
    obtain ⟨k, hk, h3⟩ := h2'
    rw [Bool.and_eq_true, beq_iff_eq] at h3
    exact ⟨o, rfl, o.after[k], Array.getElem_mem hk, h3⟩
theorem wpAny_of_last : ∀ (fuel : Nat) (listed : Array Bool) (a : Act) (w : World), wpAnyL P md ops Q S last fuel listed a w → wpAny P md ops Q fuel listed a w
  | 0, _, _, _, h => h
  | fuel + 1, _, _, _, h => ⟨h.1, fun i hi => wpOp_mono (fun a' w' h' => wpAny_of_last fuel _ a' w' h'.2) (h.2 i hi)⟩
theorem wpAnyL_first {i : Nat} {oi : Oper} {v : Value} (hi : ops[i]? = some oi) (hsel : ∀ (j : Nat) (o : Oper) cs b, ops[j]? = some o → o.op ≠ .select cs b)
    (hQ : ∀ c a w, Q (.panic c) (a.put oi.dst v) w → Q (.panic c) a w) (hl : waitsB md ops last i = true) :
    ∀ (fuel : Nat) (listed : Array Bool) (a : Act) (w : World),
      (∀ j oj, ops[j]? = some oj → j ≠ i → listed.getD j true = false → (∀ e ∈ oj.after, Region.binds md e = true → e.on ≠ i) → oi.apart ops oj = true) →
      i ∈ Region.ready md ops listed → YieldsIf P ops S oi v a → S w →
      wpAnyL P md ops Q S last fuel (listed.setIfInBounds i true) (a.put oi.dst v) w → wpAnyL P md ops Q S last (fuel + 1) listed a w := by
  intro fuel
  induction fuel with
  | zero =>
    intro listed a w _ hr hy hS H
    refine ⟨fun h => (by rw [h] at hr; cases hr), fun j hj => ?_⟩
    by_cases hji : j = i
    · subst hji; exact hy.wpOp hi hS ⟨fun _ => hS, H⟩
    · have := ready_mono hj hji
      rw [H.1] at this
      cases this
  | succ fuel ih =>
    intro listed a w hfree hr hy hS H
    refine ⟨fun h => (by rw [h] at hr; cases hr), fun j hj => ?_⟩
    by_cases hji : j = i
    · subst hji; exact hy.wpOp hi hS ⟨fun _ => hS, H⟩
    · have h1 := H.2 j (ready_mono hj hji)
      obtain ⟨hjun, oj, hoj, hall⟩ := mem_ready.1 hj
      have hnot : ∀ e ∈ oj.after, Region.binds md e = true → e.on ≠ i := fun e he hb heq => by
        have h1 := hall e he hb
        have h0 := (mem_ready.1 hr).1
        rw [heq] at h1
        rcases Nat.lt_or_ge i listed.size with h' | h'
        · simp [h'] at h0 h1; rw [h0] at h1; cases h1
        · simp [Array.getElem?_eq_none h'] at h1
      have hjl : j ≠ last := fun e => by
        obtain ⟨_, o, ho, e1, he1, hb1, hon⟩ := waitsB_spec hl
        subst e
        rw [hoj] at ho
        cases ho
        exact hnot e1 he1 hb1 hon
      have h2 := wpOp_putIf hoj (hfree j oj hoj hji hjun hnot) (fun cs b => hsel i oi cs b hi) (fun cs b => hsel j oj cs b hoj) hQ hy h1
      have hfree' : ∀ k ok, ops[k]? = some ok → k ≠ i → (listed.setIfInBounds j true).getD k true = false →
          (∀ e ∈ ok.after, Region.binds md e = true → e.on ≠ i) → oi.apart ops ok = true := fun k ok hk hki hun hno => by
        refine hfree k ok hk hki ?_ hno
        by_cases hjk : j = k
        · subst hjk; exact hjun
        · rw [getD_set_ne true hjk] at hun; exact hun
      refine wpOp_mono (fun a' w' h3 => ⟨h3.2.1, ih (listed.setIfInBounds j true) a' w' hfree' (ready_mono hr (Ne.symm hji)) h3.1 (h3.2.1 hjl) ?_⟩) h2
      rw [Array.setIfInBounds_comm _ _ hji]
      exact h3.2.2
/-- Number i first. -/
theorem wpAnyL_take {i : Nat} {oi : Oper} {v : Value} {fuel : Nat} {listed : Array Bool} {a : Act} {w : World} (hi : ops[i]? = some oi)
    (hs : Region.noSelect ops = true) (hf : Region.free md ops listed i = true) (hr : (Region.ready md ops listed).contains i = true) (hl : waitsB md ops last i = true)
    (hQ : ∀ c a w, Q (.panic c) (a.put oi.dst v) w → Q (.panic c) a w) (hy : YieldsIf P ops S oi v a) (hS : S w)
    (h : wpAnyL P md ops Q S last fuel (listed.setIfInBounds i true) (a.put oi.dst v) w) : wpAnyL P md ops Q S last (fuel + 1) listed a w :=
  wpAnyL_first hi (Region.noSelect_spec hs) hQ hl fuel listed a w (Region.free_spec hi hf) (by simpa using hr) hy hS h
/-- Each of the operations that may come up. -/
def AllReadyL (P : Program) (md : Region.Mode) (ops : Array Oper) (Q : Exit → Act → World → Prop) (S : World → Prop) (last fuel : Nat) (listed : Array Bool) (a : Act) (w : World) (rs : List Nat) : Prop :=
  ∀ i ∈ rs, wpOp P ops Q i (fun a' w' => (i ≠ last → S w') ∧ wpAnyL P md ops Q S last fuel (listed.setIfInBounds i true) a' w') a w
theorem AllReadyL.nil {fuel : Nat} {listed : Array Bool} {a : Act} {w : World} : AllReadyL P md ops Q S last fuel listed a w [] := fun _ h => by cases h
theorem AllReadyL.cons {fuel : Nat} {listed : Array Bool} {a : Act} {w : World} {i : Nat} {o : Oper} {rs : List Nat} (ho : ops[i]? = some o)
    (h : ∀ K' : Act → World → Prop, Shut (∀ a w, (i ≠ last → S w) → wpAnyL P md ops Q S last fuel (listed.setIfInBounds i true) a w → K' a w) → if Region.wanted o (yielded ops a.tmps) = true then Oper.wp P o a w K' Q else K' (a.put o.dst undef) w)
    (hs : AllReadyL P md ops Q S last fuel listed a w rs) : AllReadyL P md ops Q S last fuel listed a w (i :: rs) := fun j hj => by
  rcases List.mem_cons.1 hj with rfl | hj
  · exact wpOp_step ho (fun K' hK => h K' (fun a w hS hW => hK a w ⟨hS, hW⟩))
  · exact hs j hj
theorem wpAnyL_ready {rs : List Nat} {fuel : Nat} {listed : Array Bool} {a : Act} {w : World} (hr : Region.ready md ops listed = rs) (hne : rs ≠ [])
    (h : AllReadyL P md ops Q S last fuel listed a w rs) : wpAnyL P md ops Q S last (fuel + 1) listed a w :=
  ⟨fun h0 => absurd (hr ▸ h0) hne, hr ▸ h⟩
theorem wpAnyL_done {listed : Array Bool} {a : Act} {w : World} (hr : Region.ready md ops listed = []) (h : Q .normal a w) :
    ∀ fuel, wpAnyL P md ops Q S last fuel listed a w
  | 0 => ⟨hr, h⟩
  | _ + 1 => ⟨fun _ => h, by rw [hr]; simp⟩
/-- The beginning. -/
theorem wp_region_last {id : Nat} {a : Act} {w : World} (last : Nat) (hm : P.follows .mixedOrders = true) (hS : S w.drew)
    (h : S w.drew → wpAnyL P .any ops Q S last ops.size (Array.replicate ops.size false) a w.drew) : (Code.region id ops true).wp P Q a w :=
  wp_region_any hm (wpAny_of_last _ _ _ _ (h hS))
end

end Go.Proofs.YtamcoejlghfleaaGreat

/-
  The document's own references: what Push answers and leaves.
-/
namespace Go.Proofs.YtamcoejlghfleaaGreat
open Go.RowKit

theorem mA (w : World) (o : Obj) : (w.drew.alloc o).heap[w.heap.size]? = some o := heap_alloc_new w.drew o
theorem mB (w : World) (o p : Obj) : ((w.drew.alloc o).alloc p).heap[w.heap.size]? = some o := by
  rw [Below.heap_alloc _ _ _ (by simp)]; exact heap_alloc_new w.drew o
theorem mC (w : World) (o p : Obj) : ((w.drew.alloc p).alloc o).heap[w.heap.size + 1]? = some o := by
  have := heap_alloc_new (w.drew.alloc p) o
  rw [World.size_alloc] at this
  exact this
section
variable {w0 : World} {F0 : List Nat} {rb mb : Nat} {S : Int} {va : Option Addr} {vc : Nat} {ws : List Int} {kd : List PK} {ds : List (Int × List Int)} {Ls : List (List Int)}

set_option maxHeartbeats 1600000 in
theorem fpush_none (i a : Int) (w : World) (h : Has w0 F0 (refsA rb mb S ws kd ds Ls) w) (hi : ¬ IsQ Ls i) :
    Calls Tryz.prog 42 #[.pointer (some ⟨rb, 0, none⟩), .int .i64 i, .int .i64 a] w fun e w' => e = .returned (.int .i64 2) ∧ w = w' := by
  obtain ⟨va, vc, hr⟩ := h.fraw
  obtain ⟨_, c1, _⟩ := hr.fcells
  have HB := (show Hid (qhasB Ls.length i = false) from qhasB_no hi)
  have HC := hid c1
  clear h hr hi c1
  go_enter Tryz.func42, Tryz.ntmps42
  go_wp2_with (first | (go_at_call 45; refine (fhas _ i _ HC.out).mono ?_; rw [HB.out]; rintro e w1 ⟨rfl, rfl⟩))
  go_ret
  exact ⟨rfl, rfl⟩
set_option maxHeartbeats 1600000 in
theorem fpush_kind (i a k c l E : Int) (f : Bool) (w : World) (h : Has w0 F0 (refsA rb mb S ws kd ds Ls) w) (hi : IsQ Ls i) (hT : HeadT kd ws a k c l f E) (hk : k ≠ 4) :
    Calls Tryz.prog 42 #[.pointer (some ⟨rb, 0, none⟩), .int .i64 i, .int .i64 a] w fun e w' => e = .returned (.int .i64 5) ∧ Keep [] w w' := by
  obtain ⟨va, vc, hr⟩ := h.fraw
  obtain ⟨c0, c1, _⟩ := hr.fcells
  have HB := (show Hid (qhasB Ls.length i = true) from qhasB_yes hi)
  have HC := hid c1
  have HT := hid hT
  have HK := (show Hid ((k == 4) = false) from by show _ = _; simpa using hk)
  have HH := hid h.fheap
  have HC0 := hid c0
  clear h hr hi c1 c0 hT hk
  go_enter Tryz.func42, Tryz.ntmps42
  go_wp2_with (first | (go_at_call 45; refine (fhas _ i _ HC.out).mono ?_; rw [HB.out]; rintro e w1 ⟨rfl, rfl⟩) | (go_at_call 38; refine (fis a k c l E f _ HH.out HC0.out HT.out).mono ?_; rw [HK.out]; rintro e w1 ⟨rfl, hK1⟩))
  go_ret
  exact ⟨rfl, hK1⟩
set_option maxRecDepth 100000 in
set_option maxHeartbeats 8000000 in
theorem fpush_first (j a : Nat) (w : World) (h : Has w0 F0 (refsA rb mb S ws kd ds Ls) w) (hL : Ls[j]? = some []) (hA : RefA kd ws a) :
    Calls Tryz.prog 42 #[.pointer (some ⟨rb, 0, none⟩), .int .i64 j, .int .i64 a] w fun e w' => e = .returned (.int .i64 0) ∧ Has w0 F0 (refsA rb mb S (ws.set (a + 3) 0) kd ds (Ls.set j [(a : Int)])) w' := by
  obtain ⟨i0, hi, hz0, hz1, hz2⟩ := info_parts Tryz.infoIntQ
  have hI : Hid (Tryz.prog.info? 3 = some i0 ∧ i0.zero = some (.int .i64 0) ∧ i0.size = 1 ∧ i0.bytes = 8) := ⟨hi, hz0, hz1, hz2⟩
  clear hi hz0 hz1 hz2
  have hf := h.fheap.rfine
  have hj := isQ_j hL
  have hx := hA.inI hf
  have hab := hA.place hf
  have ha2 : a ≤ 20000 := by have := hf.len; have := hf.wf.len2; omega
  have HAB := (show Hid (-9223372036854775808 ≤ (a : Int) ∧ (a : Int) ≤ 9223372036854775807) from by show _ ∧ _; omega)
  have HP1 := (show Hid (PutT kd ws (a : Int) 2 0 0 (ws.set (a + 3) 0)) from hA.put hf 0)
  have HQ := (show Hid (QOK (Ls.set j [(a : Int)])) from h.fok.set j (by simp) (fun i => by rcases i with _ | i <;> simp <;> first | exact hx.1 | exact hx.2 | exact hx))
  obtain ⟨va, vc, hr⟩ := h.fraw
  obtain ⟨c0, c1, _⟩ := hr.fcells
  have HB := (show Hid (qhasB Ls.length j = true) from qhasB_yes (by omega))
  have HL := hid hL
  have HJ := hid hj
  obtain ⟨bb, v, rfl, c2, _, hm, n1, n2, n3, hp⟩ := hr.grow hL
  have HLR := (show Hid (inR ([] : List Int)) from (h.fok.2 _ (List.mem_of_getElem? hL)).2)
  obtain ⟨la, cc, rfl⟩ := hm.form
  rw [List.length_nil] at c2 hp n1 n2 hm
  have HP := hid hp
  have HH := hid h.fheap
  obtain ⟨ct, hct⟩ := hA.head
  have HT0 := hid hct
  obtain ⟨n, hn⟩ : ∃ n, Ls.length = n := ⟨_, rfl⟩
  rw [hn] at c1 hj HB
  have HN := hid hn
  have HC := hid c1
  have HC0 := hid c0
  clear h hr hL hm hp hA hn hf hab hx hct
  go_enter Tryz.func42, Tryz.ntmps42
  go_upto_region 6 with (first | (go_at_call 45; refine (fhas _ j _ HC.out).mono ?_; rw [HB.out]; rintro e w1 ⟨rfl, rfl⟩) | (go_at_call 38; refine (fis a 4 ct 5 0 false _ HH.out HC0.out HT0.out).mono ?_; rintro e w1 ⟨rfl, hK1⟩; have c0a := (hK1.cell (lt_of_cell2' c0) (by simp) 0).trans c0) | (go_at_call 35; refine (has_right (HP.out.keep0 hK1) (fun F hF => rput a 2 0 0 _ _ hF HP1.out inI_0)).mono ?_; rintro e w2 ⟨rfl, hP2⟩))
  obtain ⟨hr2, c22⟩ := hP2.unpin
  have HR2 := (show Hid (Has w0 F0 (refsR rb mb S (some ⟨bb, 0, none⟩) vc (ws.set (a + 3) 0) kd ds Ls) w2) from hr2)
  obtain ⟨c02, c12, _⟩ := HR2.out.fcells
  rw [HN.out] at c12
  have HP2' := hid hP2
  clear hr2 hP2 c0a hK1 c0 c1 c2 HP HC HC0 HH HT0 HB
  go_upto_region 9 with fail
  have HRN := (show Hid (Has w0 F0 (refsR rb mb S (some ⟨bb, 0, none⟩) vc (ws.set (a + 3) 0) kd ds Ls) w2) from HP2'.out.unpin.1)
  have c2 := HP2'.out.unpin.2
  obtain ⟨_, c1, _⟩ := HRN.out.fcells
  rw [HN.out] at c1
  obtain ⟨f2, hm2, m1, m2, _⟩ := Has.growAt HRN.out HL.out c2
  obtain ⟨hI2, _, hz2, _⟩ := hm2.ints HLR.out
  have HI := hid hI2
  have HZ := hid hz2
  have hl1 := lt_of_cell2' c1
  have hl2 := lt_of_cell2' c2
  have hji : (j : Int) < n := by omega
  have hj0i : (0 : Int) ≤ j := by omega
  have HC12 := (show Hid (∀ w', Keep [] w2 w' → w'.cell? ⟨rb, 1, none⟩ = some (.slice (some ⟨bb, 0, none⟩) n vc) ∧ w'.cell? ⟨bb, j, none⟩ = some (.slice la 0 cc)) from fun w' K => ⟨(K.cell hl1 (by simp) 1).trans c1, (K.cell hl2 (by simp) j).trans c2⟩)
  have HF2 := (show Hid (∀ w', Keep [] w2 w' → w'.frozen? ⟨bb, j, none⟩ = false) from fun w' K => (World.frozen?_of_block (w := w2) (a := ⟨bb, j, none⟩) (K.block bb hl2 (by simp))).trans f2)
  clear hm2 m1 m2 hI2 hz2 HP2' hl1 hl2 f2 c12 c22 c02 HR2 HP1
  refine wp_region_last (S := fun wz => wz.cell? ⟨rb, 1, none⟩ = some (.slice (some ⟨bb, 0, none⟩) n vc) ∧ wz.cell? ⟨bb, j, none⟩ = some (.slice la 0 cc)) 18 (by kernel_rfl) (HC12.out _ (Keep.drew [] _)) (fun hHeld => ?_)
  refine wpAnyL_take (i := 0) (oi := ?oi0_1) (v := ?vv0_1) ?hoi0_1 (by kernel_rfl) (by kernel_rfl) (by kernel_rfl) (by kernel_rfl) ?hq0_1 (Or.inl ⟨?hw0_1, ?hy0_1⟩) (by assumption) ?rest0_1
  case hoi0_1 => simp only [List.getElem?_toArray, List.getElem?_cons_zero]; rfl
  case hq0_1 => exact fun _ _ _ h => h
  case hw0_1 => rfl
  case hy0_1 =>
    intro w hSw
    (try dsimp only at hSw)
    go_simp
    try with_reducible rfl
  try simp only [Act.put, List.setIfInBounds_toArray, List.set_cons_zero, List.set_cons_succ]
  refine wpAnyL_take (i := 1) (oi := ?oi1_2) (v := ?vv1_2) ?hoi1_2 (by kernel_rfl) (by kernel_rfl) (by kernel_rfl) (by kernel_rfl) ?hq1_2 (Or.inl ⟨?hw1_2, ?hy1_2⟩) (by assumption) ?rest1_2
  case hoi1_2 => simp only [List.getElem?_toArray, List.getElem?_cons_succ, List.getElem?_cons_zero]; rfl
  case hq1_2 => exact fun _ _ _ h => h
  case hw1_2 => rfl
  case hy1_2 =>
    intro w hSw
    (try dsimp only at hSw)
    go_simp
    try with_reducible rfl
  try simp only [Act.put, List.setIfInBounds_toArray, List.set_cons_zero, List.set_cons_succ]
  refine wpAnyL_take (i := 2) (oi := ?oi2_3) (v := ?vv2_3) ?hoi2_3 (by kernel_rfl) (by kernel_rfl) (by kernel_rfl) (by kernel_rfl) ?hq2_3 (Or.inl ⟨?hw2_3, ?hy2_3⟩) (by assumption) ?rest2_3
  case hoi2_3 => simp only [List.getElem?_toArray, List.getElem?_cons_succ, List.getElem?_cons_zero]; rfl
  case hq2_3 => exact fun _ _ _ h => h
  case hw2_3 => rfl
  case hy2_3 =>
    intro w hSw
    (try dsimp only at hSw)
    go_simp
    try with_reducible rfl
  try simp only [Act.put, List.setIfInBounds_toArray, List.set_cons_zero, List.set_cons_succ]
  refine wpAnyL_take (i := 3) (oi := ?oi3_4) (v := ?vv3_4) ?hoi3_4 (by kernel_rfl) (by kernel_rfl) (by kernel_rfl) (by kernel_rfl) ?hq3_4 (Or.inl ⟨?hw3_4, ?hy3_4⟩) (by assumption) ?rest3_4
  case hoi3_4 => simp only [List.getElem?_toArray, List.getElem?_cons_succ, List.getElem?_cons_zero]; rfl
  case hq3_4 => exact fun _ _ _ h => h
  case hw3_4 => rfl
  case hy3_4 =>
    intro w hSw
    (try dsimp only at hSw)
    go_simp
    try with_reducible rfl
  try simp only [Act.put, List.setIfInBounds_toArray, List.set_cons_zero, List.set_cons_succ]
  refine wpAnyL_take (i := 4) (oi := ?oi4_5) (v := ?vv4_5) ?hoi4_5 (by kernel_rfl) (by kernel_rfl) (by kernel_rfl) (by kernel_rfl) ?hq4_5 (Or.inl ⟨?hw4_5, ?hy4_5⟩) (by assumption) ?rest4_5
  case hoi4_5 => simp only [List.getElem?_toArray, List.getElem?_cons_succ, List.getElem?_cons_zero]; rfl
  case hq4_5 => exact fun _ _ _ h => h
  case hw4_5 => rfl
  case hy4_5 =>
    intro w hSw
    (try dsimp only at hSw)
    go_simp
    try with_reducible rfl
  try simp only [Act.put, List.setIfInBounds_toArray, List.set_cons_zero, List.set_cons_succ]
  refine wpAnyL_take (i := 6) (oi := ?oi6_6) (v := ?vv6_6) ?hoi6_6 (by kernel_rfl) (by kernel_rfl) (by kernel_rfl) (by kernel_rfl) ?hq6_6 (Or.inl ⟨?hw6_6, ?hy6_6⟩) (by assumption) ?rest6_6
  case hoi6_6 => simp only [List.getElem?_toArray, List.getElem?_cons_succ, List.getElem?_cons_zero]; rfl
  case hq6_6 => exact fun _ _ _ h => h
  case hw6_6 => rfl
  case hy6_6 =>
    intro w hSw
    (try dsimp only at hSw)
    go_simp
    try with_reducible rfl
  try simp only [Act.put, List.setIfInBounds_toArray, List.set_cons_zero, List.set_cons_succ]
  refine wpAnyL_take (i := 7) (oi := ?oi7_7) (v := ?vv7_7) ?hoi7_7 (by kernel_rfl) (by kernel_rfl) (by kernel_rfl) (by kernel_rfl) ?hq7_7 (Or.inl ⟨?hw7_7, ?hy7_7⟩) (by assumption) ?rest7_7
  case hoi7_7 => simp only [List.getElem?_toArray, List.getElem?_cons_succ, List.getElem?_cons_zero]; rfl
  case hq7_7 => exact fun _ _ _ h => h
  case hw7_7 => rfl
  case hy7_7 =>
    intro w hSw
    (try dsimp only at hSw)
    go_simp
    try with_reducible rfl
  try simp only [Act.put, List.setIfInBounds_toArray, List.set_cons_zero, List.set_cons_succ]
  refine wpAnyL_take (i := 8) (oi := ?oi8_8) (v := ?vv8_8) ?hoi8_8 (by kernel_rfl) (by kernel_rfl) (by kernel_rfl) (by kernel_rfl) ?hq8_8 (Or.inl ⟨?hw8_8, ?hy8_8⟩) (by assumption) ?rest8_8
  case hoi8_8 => simp only [List.getElem?_toArray, List.getElem?_cons_succ, List.getElem?_cons_zero]; rfl
  case hq8_8 => exact fun _ _ _ h => h
  case hw8_8 => rfl
  case hy8_8 =>
    intro w hSw
    (try dsimp only at hSw)
    go_simp
    try with_reducible rfl
  try simp only [Act.put, List.setIfInBounds_toArray, List.set_cons_zero, List.set_cons_succ]
  refine wpAnyL_take (i := 9) (oi := ?oi9_9) (v := ?vv9_9) ?hoi9_9 (by kernel_rfl) (by kernel_rfl) (by kernel_rfl) (by kernel_rfl) ?hq9_9 (Or.inl ⟨?hw9_9, ?hy9_9⟩) (by assumption) ?rest9_9
  case hoi9_9 => simp only [List.getElem?_toArray, List.getElem?_cons_succ, List.getElem?_cons_zero]; rfl
  case hq9_9 => exact fun _ _ _ h => h
  case hw9_9 => rfl
  case hy9_9 =>
    intro w hSw
    (try dsimp only at hSw)
    go_simp
    try with_reducible rfl
  try simp only [Act.put, List.setIfInBounds_toArray, List.set_cons_zero, List.set_cons_succ]
  refine wpAnyL_take (i := 10) (oi := ?oi10_10) (v := ?vv10_10) ?hoi10_10 (by kernel_rfl) (by kernel_rfl) (by kernel_rfl) (by kernel_rfl) ?hq10_10 (Or.inl ⟨?hw10_10, ?hy10_10⟩) (by assumption) ?rest10_10
  case hoi10_10 => simp only [List.getElem?_toArray, List.getElem?_cons_succ, List.getElem?_cons_zero]; rfl
  case hq10_10 => exact fun _ _ _ h => h
  case hw10_10 => rfl
  case hy10_10 =>
    intro w hSw
    (try dsimp only at hSw)
    go_simp
    try with_reducible rfl
  try simp only [Act.put, List.setIfInBounds_toArray, List.set_cons_zero, List.set_cons_succ]
  refine wpAnyL_take (i := 11) (oi := ?oi11_11) (v := ?vv11_11) ?hoi11_11 (by kernel_rfl) (by kernel_rfl) (by kernel_rfl) (by kernel_rfl) ?hq11_11 (Or.inl ⟨?hw11_11, ?hy11_11⟩) (by assumption) ?rest11_11
  case hoi11_11 => simp only [List.getElem?_toArray, List.getElem?_cons_succ, List.getElem?_cons_zero]; rfl
  case hq11_11 => exact fun _ _ _ h => h
  case hw11_11 => rfl
  case hy11_11 =>
    intro w hSw
    (try dsimp only at hSw)
    go_simp
    try with_reducible rfl
  try simp only [Act.put, List.setIfInBounds_toArray, List.set_cons_zero, List.set_cons_succ]
  refine wpAnyL_take (i := 12) (oi := ?oi12_12) (v := ?vv12_12) ?hoi12_12 (by kernel_rfl) (by kernel_rfl) (by kernel_rfl) (by kernel_rfl) ?hq12_12 (Or.inl ⟨?hw12_12, ?hy12_12⟩) (by assumption) ?rest12_12
  case hoi12_12 => simp only [List.getElem?_toArray, List.getElem?_cons_succ, List.getElem?_cons_zero]; rfl
  case hq12_12 => exact fun _ _ _ h => h
  case hw12_12 => rfl
  case hy12_12 =>
    intro w hSw
    (try dsimp only at hSw)
    go_simp
    try with_reducible rfl
  try simp only [Act.put, List.setIfInBounds_toArray, List.set_cons_zero, List.set_cons_succ]
  refine wpAnyL_take (i := 14) (oi := ?oi14_13) (v := ?vv14_13) ?hoi14_13 (by kernel_rfl) (by kernel_rfl) (by kernel_rfl) (by kernel_rfl) ?hq14_13 (Or.inl ⟨?hw14_13, ?hy14_13⟩) (by assumption) ?rest14_13
  case hoi14_13 => simp only [List.getElem?_toArray, List.getElem?_cons_succ, List.getElem?_cons_zero]; rfl
  case hq14_13 => exact fun _ _ _ h => h
  case hw14_13 => rfl
  case hy14_13 =>
    intro w hSw
    (try dsimp only at hSw)
    go_simp
    try with_reducible rfl
  try simp only [Act.put, List.setIfInBounds_toArray, List.set_cons_zero, List.set_cons_succ]
  refine wpAnyL_ready (rs := [5, 15]) (by kernel_rfl) (by simp) ?_
  refine AllReadyL.cons (o := ?oo5_15) ?ho5_15 (fun K hK => ?st5_15) (AllReadyL.cons (o := ?oo15_14) ?ho15_14 (fun K hK => ?st15_14) AllReadyL.nil)
  case ho5_15 => simp only [List.getElem?_toArray, List.getElem?_cons_succ, List.getElem?_cons_zero]; rfl
  case ho15_14 => simp only [List.getElem?_toArray, List.getElem?_cons_succ, List.getElem?_cons_zero]; rfl
  case st5_15 =>
    go_simp
    have hHeld := HC12.out _ (show Keep [] w2 (w2.drew.alloc (.cells #[] 3)) from (Keep.drew [] _).trans (Keep.alloc [] _ _))
    refine hK.out _ _ (fun _ => hHeld) ?_
    clear hK K
    try simp only [Act.put, List.setIfInBounds_toArray, List.set_cons_zero, List.set_cons_succ]
    refine wpAnyL_ready (rs := [13, 15]) (by kernel_rfl) (by simp) ?_
    refine AllReadyL.cons (o := ?oo13_17) ?ho13_17 (fun K hK => ?st13_17) (AllReadyL.cons (o := ?oo15_16) ?ho15_16 (fun K hK => ?st15_16) AllReadyL.nil)
    case ho13_17 => simp only [List.getElem?_toArray, List.getElem?_cons_succ, List.getElem?_cons_zero]; rfl
    case ho15_16 => simp only [List.getElem?_toArray, List.getElem?_cons_succ, List.getElem?_cons_zero]; rfl
    case st13_17 =>
      refine step_append_ints rfl (.tmp 54) (.tmp 61) 23 rfl w2.heap.size 3 i0 Tryz.underlying23 hI.out (.slice (some ⟨_, 0, none⟩) 0 0) 0 [] ([] : List Int) rfl (own_emptyB (by first | exact mA _ _ | exact mB _ _ _ | exact mC _ _ _) (by omega)) la 0 cc rfl rfl (HI.out.keep (S := []) (by first | exact (Keep.drew [] _).trans (Keep.alloc [] _ _) | exact ((Keep.drew [] _).trans (Keep.alloc [] _ _)).trans (Keep.alloc [] _ _)) (fun _ _ _ => by simp)) HZ.out (by omega) (by first | (simp; done) | (simp; omega)) ?_
      intro v5 w5 hown5 hgrow5
      have hK5 : Keep [] w2 w5 := (show Keep [] w2 _ from by first | exact (Keep.drew [] _).trans (Keep.alloc [] _ _) | exact ((Keep.drew [] _).trans (Keep.alloc [] _ _)).trans (Keep.alloc [] _ _)).grown hgrow5 (fun z e => by simp [Value.ownBlock] at e; omega)
      first
        | (have HY5 := (show Hid (IntsAt w5 (some ⟨w2.heap.size + 1, 0, none⟩) [(a : Int)]) from IntsAt.grew (mC _ _ _) hgrow5 (by simp [Value.ownBlock]) HAB.out.1 HAB.out.2))
        | (have HY5 := (show Hid (IntsAt w5 (some ⟨w2.heap.size, 0, none⟩) [(a : Int)]) from IntsAt.grew (mB _ _ _) hgrow5 (by simp [Value.ownBlock]) HAB.out.1 HAB.out.2))
        | skip
      rw [Nat.zero_add, List.nil_append] at hown5
      have HO5 := (show Hid (w5.ownsRow w2.heap.size 3 1 v5 0 (ints ([] : List Int))) from hown5)
      have HK5 := (show Hid (Keep [] w2 w5) from hK5)
      clear hown5 hgrow5 hK5
      refine hK.out _ _ (fun _ => HC12.out _ HK5.out) ?_
      clear hK K
      have hHeld := HC12.out _ HK5.out
      try simp only [Act.put, List.setIfInBounds_toArray, List.set_cons_zero, List.set_cons_succ]
      refine wpAnyL_ready (rs := [15]) (by kernel_rfl) (by simp) ?_
      refine AllReadyL.cons (o := ?oo15_18) ?ho15_18 (fun K hK => ?st15_18) AllReadyL.nil
      case ho15_18 => simp only [List.getElem?_toArray, List.getElem?_cons_succ, List.getElem?_cons_zero]; rfl
      case st15_18 =>
        go_simp
        have hHeld := HC12.out _ (show Keep [] w2 (w5.alloc (.cells #[.int .i64 (a : Int)] 3)) from HK5.out.trans (Keep.alloc [] _ _))
        refine hK.out _ _ (fun _ => hHeld) ?_
        clear hK K
        try simp only [Act.put, List.setIfInBounds_toArray, List.set_cons_zero, List.set_cons_succ]
        refine wpAnyL_ready (rs := [16]) (by kernel_rfl) (by simp) ?_
        refine AllReadyL.cons (o := ?oo16_19) ?ho16_19 (fun K hK => ?st16_19) AllReadyL.nil
        case ho16_19 => simp only [List.getElem?_toArray, List.getElem?_cons_succ, List.getElem?_cons_zero]; rfl
        case st16_19 =>
          refine step_append_ints rfl (.tmp 62) (.tmp 64) 23 rfl w2.heap.size 3 i0 Tryz.underlying23 hI.out v5 0 ([] : List Int) [(a : Int)] rfl (by first | exact HO5.out | exact HO5.out.alloc _) _ 1 1 rfl rfl (by first | exact HY5.out | exact IntsAt.oneB (heap_alloc_new _ _) HAB.out.1 HAB.out.2) (by simp) (by omega) (by have := HK5.out.size; simp; omega) ?_
          intro v6 w6 hown6 hgrow6
          have hK6 : Keep [] w2 w6 := (show Keep [] w2 _ from by first | exact HK5.out | exact HK5.out.trans (Keep.alloc [] _ _)).grown hgrow6 (own_block HO5.out)
          have HB6 := (show Hid (∀ k, v6.ownBlock = some k → (Value.slice la 0 cc).ownBlock = some k ∨ w2.heap.size ≤ k) from fun k e => .inr (own_block hown6 k e))
          have HM6 := (show Hid (IsMid w6 3 v6 (([] : List Int) ++ [(a : Int)])) from own_mid hown6)
          have HK6 := (show Hid (Keep [] w2 w6) from hK6)
          obtain ⟨l6, d6, hv6⟩ := HM6.out.form
          subst hv6
          clear hown6 hgrow6 hK6
          refine hK.out _ _ (fun _ => HC12.out _ HK6.out) ?_
          clear hK K
          have hHeld := HC12.out _ HK6.out
          try simp only [Act.put, List.setIfInBounds_toArray, List.set_cons_zero, List.set_cons_succ]
          refine wpAnyL_take (i := 17) (oi := ?oi17_20) (v := ?vv17_20) ?hoi17_20 (by kernel_rfl) (by kernel_rfl) (by kernel_rfl) (by kernel_rfl) ?hq17_20 (Or.inl ⟨?hw17_20, ?hy17_20⟩) (by assumption) ?rest17_20
          case hoi17_20 => simp only [List.getElem?_toArray, List.getElem?_cons_succ, List.getElem?_cons_zero]; rfl
          case hq17_20 => exact fun _ _ _ h => h
          case hw17_20 => rfl
          case hy17_20 =>
            intro w hSw
            (try dsimp only at hSw)
            go_simp
            try with_reducible rfl
          try simp only [Act.put, List.setIfInBounds_toArray, List.set_cons_zero, List.set_cons_succ]
          refine wpAnyL_ready (rs := [18]) (by kernel_rfl) (by simp) ?_
          refine AllReadyL.cons (o := ?oo18_21) ?ho18_21 (fun K hK => ?st18_21) AllReadyL.nil
          case ho18_21 => simp only [List.getElem?_toArray, List.getElem?_cons_succ, List.getElem?_cons_zero]; rfl
          case st18_21 =>
            obtain ⟨c16, c26⟩ := HC12.out _ HK6.out
            have f26 := HF2.out _ HK6.out
            go_simp
            refine hK.out _ _ (fun h => absurd rfl h) ?_
            clear hK K
            refine wpAnyL_done (by kernel_rfl) ?_ _
            go_wp2_with fail
            go_ret
            have e2 : (([] : List Int) ++ [(a : Int)]).length = 1 := by simp
            have h5 := HM6.out
            have h6 := HB6.out
            rw [e2] at h5 h6
            exact ⟨rfl, Has.refs (va := some ⟨bb, 0, none⟩) (vc := vc) (by unfold refsR; rw [List.length_set]; exact Has.gput HRN.out HJ.out c2 h5 (HK6.out.mono (by simp)) h6) HQ.out⟩
    case st15_16 =>
      go_simp
      have hHeld := HC12.out _ (show Keep [] w2 ((w2.drew.alloc (.cells #[] 3)).alloc (.cells #[.int .i64 (a : Int)] 3)) from ((Keep.drew [] _).trans (Keep.alloc [] _ _)).trans (Keep.alloc [] _ _))
      refine hK.out _ _ (fun _ => hHeld) ?_
      clear hK K
      try simp only [Act.put, List.setIfInBounds_toArray, List.set_cons_zero, List.set_cons_succ]
      refine wpAnyL_ready (rs := [13]) (by kernel_rfl) (by simp) ?_
      refine AllReadyL.cons (o := ?oo13_22) ?ho13_22 (fun K hK => ?st13_22) AllReadyL.nil
      case ho13_22 => simp only [List.getElem?_toArray, List.getElem?_cons_succ, List.getElem?_cons_zero]; rfl
      case st13_22 =>
        refine step_append_ints rfl (.tmp 54) (.tmp 61) 23 rfl w2.heap.size 3 i0 Tryz.underlying23 hI.out (.slice (some ⟨_, 0, none⟩) 0 0) 0 [] ([] : List Int) rfl (own_emptyB (by first | exact mA _ _ | exact mB _ _ _ | exact mC _ _ _) (by omega)) la 0 cc rfl rfl (HI.out.keep (S := []) (by first | exact (Keep.drew [] _).trans (Keep.alloc [] _ _) | exact ((Keep.drew [] _).trans (Keep.alloc [] _ _)).trans (Keep.alloc [] _ _)) (fun _ _ _ => by simp)) HZ.out (by omega) (by first | (simp; done) | (simp; omega)) ?_
        intro v5 w5 hown5 hgrow5
        have hK5 : Keep [] w2 w5 := (show Keep [] w2 _ from by first | exact (Keep.drew [] _).trans (Keep.alloc [] _ _) | exact ((Keep.drew [] _).trans (Keep.alloc [] _ _)).trans (Keep.alloc [] _ _)).grown hgrow5 (fun z e => by simp [Value.ownBlock] at e; omega)
        first
          | (have HY5 := (show Hid (IntsAt w5 (some ⟨w2.heap.size + 1, 0, none⟩) [(a : Int)]) from IntsAt.grew (mC _ _ _) hgrow5 (by simp [Value.ownBlock]) HAB.out.1 HAB.out.2))
          | (have HY5 := (show Hid (IntsAt w5 (some ⟨w2.heap.size, 0, none⟩) [(a : Int)]) from IntsAt.grew (mB _ _ _) hgrow5 (by simp [Value.ownBlock]) HAB.out.1 HAB.out.2))
          | skip
        rw [Nat.zero_add, List.nil_append] at hown5
        have HO5 := (show Hid (w5.ownsRow w2.heap.size 3 1 v5 0 (ints ([] : List Int))) from hown5)
        have HK5 := (show Hid (Keep [] w2 w5) from hK5)
        clear hown5 hgrow5 hK5
        refine hK.out _ _ (fun _ => HC12.out _ HK5.out) ?_
        clear hK K
        have hHeld := HC12.out _ HK5.out
        try simp only [Act.put, List.setIfInBounds_toArray, List.set_cons_zero, List.set_cons_succ]
        refine wpAnyL_ready (rs := [16]) (by kernel_rfl) (by simp) ?_
        refine AllReadyL.cons (o := ?oo16_23) ?ho16_23 (fun K hK => ?st16_23) AllReadyL.nil
        case ho16_23 => simp only [List.getElem?_toArray, List.getElem?_cons_succ, List.getElem?_cons_zero]; rfl
        case st16_23 =>
          refine step_append_ints rfl (.tmp 62) (.tmp 64) 23 rfl w2.heap.size 3 i0 Tryz.underlying23 hI.out v5 0 ([] : List Int) [(a : Int)] rfl (by first | exact HO5.out | exact HO5.out.alloc _) _ 1 1 rfl rfl (by first | exact HY5.out | exact IntsAt.oneB (heap_alloc_new _ _) HAB.out.1 HAB.out.2) (by simp) (by omega) (by have := HK5.out.size; simp; omega) ?_
          intro v6 w6 hown6 hgrow6
          have hK6 : Keep [] w2 w6 := (show Keep [] w2 _ from by first | exact HK5.out | exact HK5.out.trans (Keep.alloc [] _ _)).grown hgrow6 (own_block HO5.out)
          have HB6 := (show Hid (∀ k, v6.ownBlock = some k → (Value.slice la 0 cc).ownBlock = some k ∨ w2.heap.size ≤ k) from fun k e => .inr (own_block hown6 k e))
          have HM6 := (show Hid (IsMid w6 3 v6 (([] : List Int) ++ [(a : Int)])) from own_mid hown6)
          have HK6 := (show Hid (Keep [] w2 w6) from hK6)
          obtain ⟨l6, d6, hv6⟩ := HM6.out.form
          subst hv6
          clear hown6 hgrow6 hK6
          refine hK.out _ _ (fun _ => HC12.out _ HK6.out) ?_
          clear hK K
          have hHeld := HC12.out _ HK6.out
          try simp only [Act.put, List.setIfInBounds_toArray, List.set_cons_zero, List.set_cons_succ]
          refine wpAnyL_take (i := 17) (oi := ?oi17_24) (v := ?vv17_24) ?hoi17_24 (by kernel_rfl) (by kernel_rfl) (by kernel_rfl) (by kernel_rfl) ?hq17_24 (Or.inl ⟨?hw17_24, ?hy17_24⟩) (by assumption) ?rest17_24
          case hoi17_24 => simp only [List.getElem?_toArray, List.getElem?_cons_succ, List.getElem?_cons_zero]; rfl
          case hq17_24 => exact fun _ _ _ h => h
          case hw17_24 => rfl
          case hy17_24 =>
            intro w hSw
            (try dsimp only at hSw)
            go_simp
            try with_reducible rfl
          try simp only [Act.put, List.setIfInBounds_toArray, List.set_cons_zero, List.set_cons_succ]
          refine wpAnyL_ready (rs := [18]) (by kernel_rfl) (by simp) ?_
          refine AllReadyL.cons (o := ?oo18_25) ?ho18_25 (fun K hK => ?st18_25) AllReadyL.nil
          case ho18_25 => simp only [List.getElem?_toArray, List.getElem?_cons_succ, List.getElem?_cons_zero]; rfl
          case st18_25 =>
            obtain ⟨c16, c26⟩ := HC12.out _ HK6.out
            have f26 := HF2.out _ HK6.out
            go_simp
            refine hK.out _ _ (fun h => absurd rfl h) ?_
            clear hK K
            refine wpAnyL_done (by kernel_rfl) ?_ _
            go_wp2_with fail
            go_ret
            have e2 : (([] : List Int) ++ [(a : Int)]).length = 1 := by simp
            have h5 := HM6.out
            have h6 := HB6.out
            rw [e2] at h5 h6
            exact ⟨rfl, Has.refs (va := some ⟨bb, 0, none⟩) (vc := vc) (by unfold refsR; rw [List.length_set]; exact Has.gput HRN.out HJ.out c2 h5 (HK6.out.mono (by simp)) h6) HQ.out⟩
  case st15_14 =>
    go_simp
    have hHeld := HC12.out _ (show Keep [] w2 (w2.drew.alloc (.cells #[.int .i64 (a : Int)] 3)) from (Keep.drew [] _).trans (Keep.alloc [] _ _))
    refine hK.out _ _ (fun _ => hHeld) ?_
    clear hK K
    try simp only [Act.put, List.setIfInBounds_toArray, List.set_cons_zero, List.set_cons_succ]
    refine wpAnyL_ready (rs := [5]) (by kernel_rfl) (by simp) ?_
    refine AllReadyL.cons (o := ?oo5_26) ?ho5_26 (fun K hK => ?st5_26) AllReadyL.nil
    case ho5_26 => simp only [List.getElem?_toArray, List.getElem?_cons_succ, List.getElem?_cons_zero]; rfl
    case st5_26 =>
      go_simp
      have hHeld := HC12.out _ (show Keep [] w2 ((w2.drew.alloc (.cells #[.int .i64 (a : Int)] 3)).alloc (.cells #[] 3)) from ((Keep.drew [] _).trans (Keep.alloc [] _ _)).trans (Keep.alloc [] _ _))
      refine hK.out _ _ (fun _ => hHeld) ?_
      clear hK K
      try simp only [Act.put, List.setIfInBounds_toArray, List.set_cons_zero, List.set_cons_succ]
      refine wpAnyL_ready (rs := [13]) (by kernel_rfl) (by simp) ?_
      refine AllReadyL.cons (o := ?oo13_27) ?ho13_27 (fun K hK => ?st13_27) AllReadyL.nil
      case ho13_27 => simp only [List.getElem?_toArray, List.getElem?_cons_succ, List.getElem?_cons_zero]; rfl
      case st13_27 =>
        refine step_append_ints rfl (.tmp 54) (.tmp 61) 23 rfl w2.heap.size 3 i0 Tryz.underlying23 hI.out (.slice (some ⟨_, 0, none⟩) 0 0) 0 [] ([] : List Int) rfl (own_emptyB (by first | exact mA _ _ | exact mB _ _ _ | exact mC _ _ _) (by omega)) la 0 cc rfl rfl (HI.out.keep (S := []) (by first | exact (Keep.drew [] _).trans (Keep.alloc [] _ _) | exact ((Keep.drew [] _).trans (Keep.alloc [] _ _)).trans (Keep.alloc [] _ _)) (fun _ _ _ => by simp)) HZ.out (by omega) (by first | (simp; done) | (simp; omega)) ?_
        intro v5 w5 hown5 hgrow5
        have hK5 : Keep [] w2 w5 := (show Keep [] w2 _ from by first | exact (Keep.drew [] _).trans (Keep.alloc [] _ _) | exact ((Keep.drew [] _).trans (Keep.alloc [] _ _)).trans (Keep.alloc [] _ _)).grown hgrow5 (fun z e => by simp [Value.ownBlock] at e; omega)
        first
          | (have HY5 := (show Hid (IntsAt w5 (some ⟨w2.heap.size + 1, 0, none⟩) [(a : Int)]) from IntsAt.grew (mC _ _ _) hgrow5 (by simp [Value.ownBlock]) HAB.out.1 HAB.out.2))
          | (have HY5 := (show Hid (IntsAt w5 (some ⟨w2.heap.size, 0, none⟩) [(a : Int)]) from IntsAt.grew (mB _ _ _) hgrow5 (by simp [Value.ownBlock]) HAB.out.1 HAB.out.2))
          | skip
        rw [Nat.zero_add, List.nil_append] at hown5
        have HO5 := (show Hid (w5.ownsRow w2.heap.size 3 1 v5 0 (ints ([] : List Int))) from hown5)
        have HK5 := (show Hid (Keep [] w2 w5) from hK5)
        clear hown5 hgrow5 hK5
        refine hK.out _ _ (fun _ => HC12.out _ HK5.out) ?_
        clear hK K
        have hHeld := HC12.out _ HK5.out
        try simp only [Act.put, List.setIfInBounds_toArray, List.set_cons_zero, List.set_cons_succ]
        refine wpAnyL_ready (rs := [16]) (by kernel_rfl) (by simp) ?_
        refine AllReadyL.cons (o := ?oo16_28) ?ho16_28 (fun K hK => ?st16_28) AllReadyL.nil
        case ho16_28 => simp only [List.getElem?_toArray, List.getElem?_cons_succ, List.getElem?_cons_zero]; rfl
        case st16_28 =>
          refine step_append_ints rfl (.tmp 62) (.tmp 64) 23 rfl w2.heap.size 3 i0 Tryz.underlying23 hI.out v5 0 ([] : List Int) [(a : Int)] rfl (by first | exact HO5.out | exact HO5.out.alloc _) _ 1 1 rfl rfl (by first | exact HY5.out | exact IntsAt.oneB (heap_alloc_new _ _) HAB.out.1 HAB.out.2) (by simp) (by omega) (by have := HK5.out.size; simp; omega) ?_
          intro v6 w6 hown6 hgrow6
          have hK6 : Keep [] w2 w6 := (show Keep [] w2 _ from by first | exact HK5.out | exact HK5.out.trans (Keep.alloc [] _ _)).grown hgrow6 (own_block HO5.out)
          have HB6 := (show Hid (∀ k, v6.ownBlock = some k → (Value.slice la 0 cc).ownBlock = some k ∨ w2.heap.size ≤ k) from fun k e => .inr (own_block hown6 k e))
          have HM6 := (show Hid (IsMid w6 3 v6 (([] : List Int) ++ [(a : Int)])) from own_mid hown6)
          have HK6 := (show Hid (Keep [] w2 w6) from hK6)
          obtain ⟨l6, d6, hv6⟩ := HM6.out.form
          subst hv6
          clear hown6 hgrow6 hK6
          refine hK.out _ _ (fun _ => HC12.out _ HK6.out) ?_
          clear hK K
          have hHeld := HC12.out _ HK6.out
          try simp only [Act.put, List.setIfInBounds_toArray, List.set_cons_zero, List.set_cons_succ]
          refine wpAnyL_take (i := 17) (oi := ?oi17_29) (v := ?vv17_29) ?hoi17_29 (by kernel_rfl) (by kernel_rfl) (by kernel_rfl) (by kernel_rfl) ?hq17_29 (Or.inl ⟨?hw17_29, ?hy17_29⟩) (by assumption) ?rest17_29
          case hoi17_29 => simp only [List.getElem?_toArray, List.getElem?_cons_succ, List.getElem?_cons_zero]; rfl
          case hq17_29 => exact fun _ _ _ h => h
          case hw17_29 => rfl
          case hy17_29 =>
            intro w hSw
            (try dsimp only at hSw)
            go_simp
            try with_reducible rfl
          try simp only [Act.put, List.setIfInBounds_toArray, List.set_cons_zero, List.set_cons_succ]
          refine wpAnyL_ready (rs := [18]) (by kernel_rfl) (by simp) ?_
          refine AllReadyL.cons (o := ?oo18_30) ?ho18_30 (fun K hK => ?st18_30) AllReadyL.nil
          case ho18_30 => simp only [List.getElem?_toArray, List.getElem?_cons_succ, List.getElem?_cons_zero]; rfl
          case st18_30 =>
            obtain ⟨c16, c26⟩ := HC12.out _ HK6.out
            have f26 := HF2.out _ HK6.out
            go_simp
            refine hK.out _ _ (fun h => absurd rfl h) ?_
            clear hK K
            refine wpAnyL_done (by kernel_rfl) ?_ _
            go_wp2_with fail
            go_ret
            have e2 : (([] : List Int) ++ [(a : Int)]).length = 1 := by simp
            have h5 := HM6.out
            have h6 := HB6.out
            rw [e2] at h5 h6
            exact ⟨rfl, Has.refs (va := some ⟨bb, 0, none⟩) (vc := vc) (by unfold refsR; rw [List.length_set]; exact Has.gput HRN.out HJ.out c2 h5 (HK6.out.mono (by simp)) h6) HQ.out⟩
set_option maxRecDepth 100000 in
set_option maxHeartbeats 8000000 in
theorem fpush_more (j a y : Nat) (L : List Int) (w : World) (h : Has w0 F0 (refsA rb mb S ws kd ds Ls) w) (hL : Ls[j]? = some (L ++ [(y : Int)])) (hA : RefA kd ws a) (hY : RefA kd ws y) (hne : a ≠ y) (hl : L.length < 999999) :
    Calls Tryz.prog 42 #[.pointer (some ⟨rb, 0, none⟩), .int .i64 j, .int .i64 a] w fun e w' => e = .returned (.int .i64 0) ∧ Has w0 F0 (refsA rb mb S ((ws.set (y + 3) (a : Int)).set (a + 3) 0) kd ds (Ls.set j (L ++ [(y : Int)] ++ [(a : Int)]))) w' := by
  obtain ⟨i0, hi, hz0, hz1, hz2⟩ := info_parts Tryz.infoIntQ
  have hI : Hid (Tryz.prog.info? 3 = some i0 ∧ i0.zero = some (.int .i64 0) ∧ i0.size = 1 ∧ i0.bytes = 8) := ⟨hi, hz0, hz1, hz2⟩
  clear hi hz0 hz1 hz2
  have hf := h.fheap.rfine
  have hj := isQ_j hL
  have hx := hA.inI hf
  have hab := hA.place hf
  have ha2 : a ≤ 20000 := by have := hf.len; have := hf.wf.len2; omega
  have HAB := (show Hid (-9223372036854775808 ≤ (a : Int) ∧ (a : Int) ≤ 9223372036854775807) from by show _ ∧ _; omega)
  have HP1 := (show Hid (PutT kd ws (a : Int) 2 0 0 (ws.set (a + 3) 0)) from hA.put hf 0)
  have HQ := (show Hid (QOK (Ls.set j (L ++ [(y : Int)] ++ [(a : Int)]))) from h.fok.set j (by simp; omega) (app_bd ((h.fok.2 _ (List.mem_of_getElem? hL)).2) hx.1 hx.2))
  have HP2 := (show Hid (PutT kd (ws.set (a + 3) 0) (y : Int) 2 (a : Int) 0 ((ws.set (y + 3) (a : Int)).set (a + 3) 0)) from by
    have h1 := (hA.kept hf hY 0).put (hA.fineSet hf inI_0) (a : Int)
    rw [List.set_comm _ _ (by omega)] at h1
    exact h1)
  have HXI := hid hx
  obtain ⟨va, vc, hr⟩ := h.fraw
  obtain ⟨c0, c1, _⟩ := hr.fcells
  have HB := (show Hid (qhasB Ls.length j = true) from qhasB_yes (by omega))
  have HL := hid hL
  have HJ := hid hj
  obtain ⟨bb, v, rfl, c2, _, hm, n1, n2, n3, hp⟩ := hr.grow hL
  have HLR := (show Hid (inR (L ++ [(y : Int)])) from (h.fok.2 _ (List.mem_of_getElem? hL)).2)
  obtain ⟨lq, cc, rfl⟩ := hm.form
  obtain ⟨hI2, _, _, _⟩ := hm.ints HLR.out
  obtain ⟨lg, lo, rfl, hlg, _⟩ := hI2.cells (by simp)
  obtain ⟨q, hq⟩ : ∃ q, L.length = q := ⟨_, rfl⟩
  obtain ⟨p, hp0⟩ : ∃ p, (L ++ [(y : Int)]).length = p := ⟨_, rfl⟩
  have hpq : q < p := by rw [← hp0, List.length_append, hq]; simp
  have hp1 : (p : Int) - 1 = (q : Int) := by rw [← hp0, List.length_append, hq]; simp
  have hp2 : p ≤ 999999 := by rw [← hp0, List.length_append]; simp; omega
  have hdp : decide (0 < p) = true := decide_eq_true (by omega)
  have HPL := (show Hid ((L ++ [(y : Int)]).length = p) from hp0)
  have HLQ := hid hq
  rw [hp0] at c2 hp n1 n2 hm
  have HP := hid hp
  have HH := hid h.fheap
  obtain ⟨ct, hct⟩ := hA.head
  have HT0 := hid hct
  obtain ⟨n, hn⟩ : ∃ n, Ls.length = n := ⟨_, rfl⟩
  rw [hn] at c1 hj HB
  have HN := hid hn
  have HC := hid c1
  have HC0 := hid c0
  clear h hr hL hm hp hA hn hf hab hx hct
  clear hY hI2 hp0 hq
  go_enter Tryz.func42, Tryz.ntmps42
  go_upto_region 6 with (first | (go_at_call 45; refine (fhas _ j _ HC.out).mono ?_; rw [HB.out]; rintro e w1 ⟨rfl, rfl⟩) | (go_at_call 38; refine (fis a 4 ct 5 0 false _ HH.out HC0.out HT0.out).mono ?_; rintro e w1 ⟨rfl, hK1⟩; have c0a := (hK1.cell (lt_of_cell2' c0) (by simp) 0).trans c0) | (go_at_call 35; refine (has_right (HP.out.keep0 hK1) (fun F hF => rput a 2 0 0 _ _ hF HP1.out inI_0)).mono ?_; rintro e w2 ⟨rfl, hP2⟩))
  obtain ⟨hr2, c22⟩ := hP2.unpin
  have HR2 := (show Hid (Has w0 F0 (refsR rb mb S (some ⟨bb, 0, none⟩) vc (ws.set (a + 3) 0) kd ds Ls) w2) from hr2)
  obtain ⟨c02, c12, _⟩ := HR2.out.fcells
  rw [HN.out] at c12
  have HP2' := hid hP2
  clear hr2 hP2 c0a hK1 c0 c1 c2 HP HC HC0 HH HT0 HB
  obtain ⟨_, hm2, _, _, _⟩ := Has.growAt HR2.out HL.out c22
  obtain ⟨hI2, _, _, _⟩ := hm2.ints HLR.out
  obtain ⟨_, _, e, _, hcs⟩ := hI2.cells (by simp)
  cases e
  have hcy := hcs q (by rw [HPL.out]; exact hpq)
  rw [snoc_new L (y : Int) q HLQ.out.symm] at hcy
  clear hm2 hI2 hcs
  have hwq : IntKind.i64.wrap (q : Int) = q := IntWalk.i64_in _ (by omega)
  have hq0i : (0 : Int) ≤ q := by omega
  have hqpi : (q : Int) < p := by omega
  go_upto_region 8 with fail
  go_cut [] from 32 to 48 (fun wz => Hid (Has w0 F0 ((((blockA rb (rObj mb S (some ⟨bb, 0, none⟩) Ls.length vc)).star (llA (some ⟨bb, 0, none⟩) vc Ls)).pin bb j (.slice (some ⟨lg, lo, none⟩) p cc)).star (rheapA mb ((ws.set (y + 3) (a : Int)).set (a + 3) 0) kd ds)) wz))
  case first =>
    go_region_law (first | (go_simp; refine (has_right (HP2'.out.keep0 (Keep.drew [] _)) (fun F hF => rput y 2 a 0 _ _ hF HP2.out HXI.out)).mono ?_; rintro e w3 ⟨rfl, hP3⟩))
    all_goals (go_wp2_with fail)
    all_goals go_meet
    all_goals exact hP3
  case rest =>
  obtain ⟨w3, rfl⟩ : ∃ w3, w3 = wc := ⟨_, rfl⟩
  have HP3 := hcut
  go_upto_region 9 with fail
  have HRN := (show Hid (Has w0 F0 (refsR rb mb S (some ⟨bb, 0, none⟩) vc ((ws.set (y + 3) (a : Int)).set (a + 3) 0) kd ds Ls) w3) from HP3.out.unpin.1)
  have c2 := HP3.out.unpin.2
  obtain ⟨_, c1, _⟩ := HRN.out.fcells
  rw [HN.out] at c1
  obtain ⟨f2, hm2, m1, m2, _⟩ := Has.growAt HRN.out HL.out c2
  obtain ⟨hI2, _, hz2, _⟩ := hm2.ints HLR.out
  have HI := hid hI2
  have HZ := hid hz2
  have hl1 := lt_of_cell2' c1
  have hl2 := lt_of_cell2' c2
  have hji : (j : Int) < n := by omega
  have hj0i : (0 : Int) ≤ j := by omega
  have HC12 := (show Hid (∀ w', Keep [] w3 w' → w'.cell? ⟨rb, 1, none⟩ = some (.slice (some ⟨bb, 0, none⟩) n vc) ∧ w'.cell? ⟨bb, j, none⟩ = some (.slice (some ⟨lg, lo, none⟩) p cc)) from fun w' K => ⟨(K.cell hl1 (by simp) 1).trans c1, (K.cell hl2 (by simp) j).trans c2⟩)
  have HF2 := (show Hid (∀ w', Keep [] w3 w' → w'.frozen? ⟨bb, j, none⟩ = false) from fun w' K => (World.frozen?_of_block (w := w3) (a := ⟨bb, j, none⟩) (K.block bb hl2 (by simp))).trans f2)
  clear hm2 m1 m2 hI2 hz2 HP3 hl1 hl2 f2 c12 c22 c02 HR2 HP2' HP1 HP2 hcy hwq
  refine wp_region_last (S := fun wz => wz.cell? ⟨rb, 1, none⟩ = some (.slice (some ⟨bb, 0, none⟩) n vc) ∧ wz.cell? ⟨bb, j, none⟩ = some (.slice (some ⟨lg, lo, none⟩) p cc)) 18 (by kernel_rfl) (HC12.out _ (Keep.drew [] _)) (fun hHeld => ?_)
  refine wpAnyL_take (i := 0) (oi := ?oi0_1) (v := ?vv0_1) ?hoi0_1 (by kernel_rfl) (by kernel_rfl) (by kernel_rfl) (by kernel_rfl) ?hq0_1 (Or.inl ⟨?hw0_1, ?hy0_1⟩) (by assumption) ?rest0_1
  case hoi0_1 => simp only [List.getElem?_toArray, List.getElem?_cons_zero]; rfl
  case hq0_1 => exact fun _ _ _ h => h
  case hw0_1 => rfl
  case hy0_1 =>
    intro w hSw
    (try dsimp only at hSw)
    go_simp
    try with_reducible rfl
  try simp only [Act.put, List.setIfInBounds_toArray, List.set_cons_zero, List.set_cons_succ]
  refine wpAnyL_take (i := 1) (oi := ?oi1_2) (v := ?vv1_2) ?hoi1_2 (by kernel_rfl) (by kernel_rfl) (by kernel_rfl) (by kernel_rfl) ?hq1_2 (Or.inl ⟨?hw1_2, ?hy1_2⟩) (by assumption) ?rest1_2
  case hoi1_2 => simp only [List.getElem?_toArray, List.getElem?_cons_succ, List.getElem?_cons_zero]; rfl
  case hq1_2 => exact fun _ _ _ h => h
  case hw1_2 => rfl
  case hy1_2 =>
    intro w hSw
    (try dsimp only at hSw)
    go_simp
    try with_reducible rfl
  try simp only [Act.put, List.setIfInBounds_toArray, List.set_cons_zero, List.set_cons_succ]
  refine wpAnyL_take (i := 2) (oi := ?oi2_3) (v := ?vv2_3) ?hoi2_3 (by kernel_rfl) (by kernel_rfl) (by kernel_rfl) (by kernel_rfl) ?hq2_3 (Or.inl ⟨?hw2_3, ?hy2_3⟩) (by assumption) ?rest2_3
  case hoi2_3 => simp only [List.getElem?_toArray, List.getElem?_cons_succ, List.getElem?_cons_zero]; rfl
  case hq2_3 => exact fun _ _ _ h => h
  case hw2_3 => rfl
  case hy2_3 =>
    intro w hSw
    (try dsimp only at hSw)
    go_simp
    try with_reducible rfl
  try simp only [Act.put, List.setIfInBounds_toArray, List.set_cons_zero, List.set_cons_succ]
  refine wpAnyL_take (i := 3) (oi := ?oi3_4) (v := ?vv3_4) ?hoi3_4 (by kernel_rfl) (by kernel_rfl) (by kernel_rfl) (by kernel_rfl) ?hq3_4 (Or.inl ⟨?hw3_4, ?hy3_4⟩) (by assumption) ?rest3_4
  case hoi3_4 => simp only [List.getElem?_toArray, List.getElem?_cons_succ, List.getElem?_cons_zero]; rfl
  case hq3_4 => exact fun _ _ _ h => h
  case hw3_4 => rfl
  case hy3_4 =>
    intro w hSw
    (try dsimp only at hSw)
    go_simp
    try with_reducible rfl
  try simp only [Act.put, List.setIfInBounds_toArray, List.set_cons_zero, List.set_cons_succ]
  refine wpAnyL_take (i := 4) (oi := ?oi4_5) (v := ?vv4_5) ?hoi4_5 (by kernel_rfl) (by kernel_rfl) (by kernel_rfl) (by kernel_rfl) ?hq4_5 (Or.inl ⟨?hw4_5, ?hy4_5⟩) (by assumption) ?rest4_5
  case hoi4_5 => simp only [List.getElem?_toArray, List.getElem?_cons_succ, List.getElem?_cons_zero]; rfl
  case hq4_5 => exact fun _ _ _ h => h
  case hw4_5 => rfl
  case hy4_5 =>
    intro w hSw
    (try dsimp only at hSw)
    go_simp
    try with_reducible rfl
  try simp only [Act.put, List.setIfInBounds_toArray, List.set_cons_zero, List.set_cons_succ]
  refine wpAnyL_take (i := 6) (oi := ?oi6_6) (v := ?vv6_6) ?hoi6_6 (by kernel_rfl) (by kernel_rfl) (by kernel_rfl) (by kernel_rfl) ?hq6_6 (Or.inl ⟨?hw6_6, ?hy6_6⟩) (by assumption) ?rest6_6
  case hoi6_6 => simp only [List.getElem?_toArray, List.getElem?_cons_succ, List.getElem?_cons_zero]; rfl
  case hq6_6 => exact fun _ _ _ h => h
  case hw6_6 => rfl
  case hy6_6 =>
    intro w hSw
    (try dsimp only at hSw)
    go_simp
    try with_reducible rfl
  try simp only [Act.put, List.setIfInBounds_toArray, List.set_cons_zero, List.set_cons_succ]
  refine wpAnyL_take (i := 7) (oi := ?oi7_7) (v := ?vv7_7) ?hoi7_7 (by kernel_rfl) (by kernel_rfl) (by kernel_rfl) (by kernel_rfl) ?hq7_7 (Or.inl ⟨?hw7_7, ?hy7_7⟩) (by assumption) ?rest7_7
  case hoi7_7 => simp only [List.getElem?_toArray, List.getElem?_cons_succ, List.getElem?_cons_zero]; rfl
  case hq7_7 => exact fun _ _ _ h => h
  case hw7_7 => rfl
  case hy7_7 =>
    intro w hSw
    (try dsimp only at hSw)
    go_simp
    try with_reducible rfl
  try simp only [Act.put, List.setIfInBounds_toArray, List.set_cons_zero, List.set_cons_succ]
  refine wpAnyL_take (i := 8) (oi := ?oi8_8) (v := ?vv8_8) ?hoi8_8 (by kernel_rfl) (by kernel_rfl) (by kernel_rfl) (by kernel_rfl) ?hq8_8 (Or.inl ⟨?hw8_8, ?hy8_8⟩) (by assumption) ?rest8_8
  case hoi8_8 => simp only [List.getElem?_toArray, List.getElem?_cons_succ, List.getElem?_cons_zero]; rfl
  case hq8_8 => exact fun _ _ _ h => h
  case hw8_8 => rfl
  case hy8_8 =>
    intro w hSw
    (try dsimp only at hSw)
    go_simp
    try with_reducible rfl
  try simp only [Act.put, List.setIfInBounds_toArray, List.set_cons_zero, List.set_cons_succ]
  refine wpAnyL_take (i := 9) (oi := ?oi9_9) (v := ?vv9_9) ?hoi9_9 (by kernel_rfl) (by kernel_rfl) (by kernel_rfl) (by kernel_rfl) ?hq9_9 (Or.inl ⟨?hw9_9, ?hy9_9⟩) (by assumption) ?rest9_9
  case hoi9_9 => simp only [List.getElem?_toArray, List.getElem?_cons_succ, List.getElem?_cons_zero]; rfl
  case hq9_9 => exact fun _ _ _ h => h
  case hw9_9 => rfl
  case hy9_9 =>
    intro w hSw
    (try dsimp only at hSw)
    go_simp
    try with_reducible rfl
  try simp only [Act.put, List.setIfInBounds_toArray, List.set_cons_zero, List.set_cons_succ]
  refine wpAnyL_take (i := 10) (oi := ?oi10_10) (v := ?vv10_10) ?hoi10_10 (by kernel_rfl) (by kernel_rfl) (by kernel_rfl) (by kernel_rfl) ?hq10_10 (Or.inl ⟨?hw10_10, ?hy10_10⟩) (by assumption) ?rest10_10
  case hoi10_10 => simp only [List.getElem?_toArray, List.getElem?_cons_succ, List.getElem?_cons_zero]; rfl
  case hq10_10 => exact fun _ _ _ h => h
  case hw10_10 => rfl
  case hy10_10 =>
    intro w hSw
    (try dsimp only at hSw)
    go_simp
    try with_reducible rfl
  try simp only [Act.put, List.setIfInBounds_toArray, List.set_cons_zero, List.set_cons_succ]
  refine wpAnyL_take (i := 11) (oi := ?oi11_11) (v := ?vv11_11) ?hoi11_11 (by kernel_rfl) (by kernel_rfl) (by kernel_rfl) (by kernel_rfl) ?hq11_11 (Or.inl ⟨?hw11_11, ?hy11_11⟩) (by assumption) ?rest11_11
  case hoi11_11 => simp only [List.getElem?_toArray, List.getElem?_cons_succ, List.getElem?_cons_zero]; rfl
  case hq11_11 => exact fun _ _ _ h => h
  case hw11_11 => rfl
  case hy11_11 =>
    intro w hSw
    (try dsimp only at hSw)
    go_simp
    try with_reducible rfl
  try simp only [Act.put, List.setIfInBounds_toArray, List.set_cons_zero, List.set_cons_succ]
  refine wpAnyL_take (i := 12) (oi := ?oi12_12) (v := ?vv12_12) ?hoi12_12 (by kernel_rfl) (by kernel_rfl) (by kernel_rfl) (by kernel_rfl) ?hq12_12 (Or.inl ⟨?hw12_12, ?hy12_12⟩) (by assumption) ?rest12_12
  case hoi12_12 => simp only [List.getElem?_toArray, List.getElem?_cons_succ, List.getElem?_cons_zero]; rfl
  case hq12_12 => exact fun _ _ _ h => h
  case hw12_12 => rfl
  case hy12_12 =>
    intro w hSw
    (try dsimp only at hSw)
    go_simp
    try with_reducible rfl
  try simp only [Act.put, List.setIfInBounds_toArray, List.set_cons_zero, List.set_cons_succ]
  refine wpAnyL_take (i := 14) (oi := ?oi14_13) (v := ?vv14_13) ?hoi14_13 (by kernel_rfl) (by kernel_rfl) (by kernel_rfl) (by kernel_rfl) ?hq14_13 (Or.inl ⟨?hw14_13, ?hy14_13⟩) (by assumption) ?rest14_13
  case hoi14_13 => simp only [List.getElem?_toArray, List.getElem?_cons_succ, List.getElem?_cons_zero]; rfl
  case hq14_13 => exact fun _ _ _ h => h
  case hw14_13 => rfl
  case hy14_13 =>
    intro w hSw
    (try dsimp only at hSw)
    go_simp
    try with_reducible rfl
  try simp only [Act.put, List.setIfInBounds_toArray, List.set_cons_zero, List.set_cons_succ]
  refine wpAnyL_ready (rs := [5, 15]) (by kernel_rfl) (by simp) ?_
  refine AllReadyL.cons (o := ?oo5_15) ?ho5_15 (fun K hK => ?st5_15) (AllReadyL.cons (o := ?oo15_14) ?ho15_14 (fun K hK => ?st15_14) AllReadyL.nil)
  case ho5_15 => simp only [List.getElem?_toArray, List.getElem?_cons_succ, List.getElem?_cons_zero]; rfl
  case ho15_14 => simp only [List.getElem?_toArray, List.getElem?_cons_succ, List.getElem?_cons_zero]; rfl
  case st5_15 =>
    go_simp
    have hHeld := HC12.out _ (show Keep [] w3 (w3.drew.alloc (.cells #[] 3)) from (Keep.drew [] _).trans (Keep.alloc [] _ _))
    refine hK.out _ _ (fun _ => hHeld) ?_
    clear hK K
    try simp only [Act.put, List.setIfInBounds_toArray, List.set_cons_zero, List.set_cons_succ]
    refine wpAnyL_ready (rs := [13, 15]) (by kernel_rfl) (by simp) ?_
    refine AllReadyL.cons (o := ?oo13_17) ?ho13_17 (fun K hK => ?st13_17) (AllReadyL.cons (o := ?oo15_16) ?ho15_16 (fun K hK => ?st15_16) AllReadyL.nil)
    case ho13_17 => simp only [List.getElem?_toArray, List.getElem?_cons_succ, List.getElem?_cons_zero]; rfl
    case ho15_16 => simp only [List.getElem?_toArray, List.getElem?_cons_succ, List.getElem?_cons_zero]; rfl
    case st13_17 =>
      refine step_append_ints rfl (.tmp 54) (.tmp 61) 23 rfl w3.heap.size 3 i0 Tryz.underlying23 hI.out (.slice (some ⟨_, 0, none⟩) 0 0) 0 [] (L ++ [(y : Int)]) rfl (own_emptyB (by first | exact mA _ _ | exact mB _ _ _ | exact mC _ _ _) (by omega)) (some ⟨lg, lo, none⟩) p cc HPL.out rfl (HI.out.keep (S := []) (by first | exact (Keep.drew [] _).trans (Keep.alloc [] _ _) | exact ((Keep.drew [] _).trans (Keep.alloc [] _ _)).trans (Keep.alloc [] _ _)) (fun _ _ _ => by simp)) HZ.out (by omega) (by first | (simp; done) | (simp; omega)) ?_
      intro v5 w5 hown5 hgrow5
      have hK5 : Keep [] w3 w5 := (show Keep [] w3 _ from by first | exact (Keep.drew [] _).trans (Keep.alloc [] _ _) | exact ((Keep.drew [] _).trans (Keep.alloc [] _ _)).trans (Keep.alloc [] _ _)).grown hgrow5 (fun z e => by simp [Value.ownBlock] at e; omega)
      first
        | (have HY5 := (show Hid (IntsAt w5 (some ⟨w3.heap.size + 1, 0, none⟩) [(a : Int)]) from IntsAt.grew (mC _ _ _) hgrow5 (by simp [Value.ownBlock]) HAB.out.1 HAB.out.2))
        | (have HY5 := (show Hid (IntsAt w5 (some ⟨w3.heap.size, 0, none⟩) [(a : Int)]) from IntsAt.grew (mB _ _ _) hgrow5 (by simp [Value.ownBlock]) HAB.out.1 HAB.out.2))
        | skip
      rw [Nat.zero_add, List.nil_append] at hown5
      have HO5 := (show Hid (w5.ownsRow w3.heap.size 3 1 v5 p (ints (L ++ [(y : Int)]))) from hown5)
      have HK5 := (show Hid (Keep [] w3 w5) from hK5)
      clear hown5 hgrow5 hK5
      refine hK.out _ _ (fun _ => HC12.out _ HK5.out) ?_
      clear hK K
      have hHeld := HC12.out _ HK5.out
      try simp only [Act.put, List.setIfInBounds_toArray, List.set_cons_zero, List.set_cons_succ]
      refine wpAnyL_ready (rs := [15]) (by kernel_rfl) (by simp) ?_
      refine AllReadyL.cons (o := ?oo15_18) ?ho15_18 (fun K hK => ?st15_18) AllReadyL.nil
      case ho15_18 => simp only [List.getElem?_toArray, List.getElem?_cons_succ, List.getElem?_cons_zero]; rfl
      case st15_18 =>
        go_simp
        have hHeld := HC12.out _ (show Keep [] w3 (w5.alloc (.cells #[.int .i64 (a : Int)] 3)) from HK5.out.trans (Keep.alloc [] _ _))
        refine hK.out _ _ (fun _ => hHeld) ?_
        clear hK K
        try simp only [Act.put, List.setIfInBounds_toArray, List.set_cons_zero, List.set_cons_succ]
        refine wpAnyL_ready (rs := [16]) (by kernel_rfl) (by simp) ?_
        refine AllReadyL.cons (o := ?oo16_19) ?ho16_19 (fun K hK => ?st16_19) AllReadyL.nil
        case ho16_19 => simp only [List.getElem?_toArray, List.getElem?_cons_succ, List.getElem?_cons_zero]; rfl
        case st16_19 =>
          refine step_append_ints rfl (.tmp 62) (.tmp 64) 23 rfl w3.heap.size 3 i0 Tryz.underlying23 hI.out v5 p (L ++ [(y : Int)]) [(a : Int)] rfl (by first | exact HO5.out | exact HO5.out.alloc _) _ 1 1 rfl rfl (by first | exact HY5.out | exact IntsAt.oneB (heap_alloc_new _ _) HAB.out.1 HAB.out.2) (by simp) (by omega) (by have := HK5.out.size; simp; omega) ?_
          intro v6 w6 hown6 hgrow6
          have hK6 : Keep [] w3 w6 := (show Keep [] w3 _ from by first | exact HK5.out | exact HK5.out.trans (Keep.alloc [] _ _)).grown hgrow6 (own_block HO5.out)
          have HB6 := (show Hid (∀ k, v6.ownBlock = some k → (Value.slice (some ⟨lg, lo, none⟩) p cc).ownBlock = some k ∨ w3.heap.size ≤ k) from fun k e => .inr (own_block hown6 k e))
          have HM6 := (show Hid (IsMid w6 3 v6 ((L ++ [(y : Int)]) ++ [(a : Int)])) from own_mid hown6)
          have HK6 := (show Hid (Keep [] w3 w6) from hK6)
          obtain ⟨l6, d6, hv6⟩ := HM6.out.form
          subst hv6
          clear hown6 hgrow6 hK6
          refine hK.out _ _ (fun _ => HC12.out _ HK6.out) ?_
          clear hK K
          have hHeld := HC12.out _ HK6.out
          try simp only [Act.put, List.setIfInBounds_toArray, List.set_cons_zero, List.set_cons_succ]
          refine wpAnyL_take (i := 17) (oi := ?oi17_20) (v := ?vv17_20) ?hoi17_20 (by kernel_rfl) (by kernel_rfl) (by kernel_rfl) (by kernel_rfl) ?hq17_20 (Or.inl ⟨?hw17_20, ?hy17_20⟩) (by assumption) ?rest17_20
          case hoi17_20 => simp only [List.getElem?_toArray, List.getElem?_cons_succ, List.getElem?_cons_zero]; rfl
          case hq17_20 => exact fun _ _ _ h => h
          case hw17_20 => rfl
          case hy17_20 =>
            intro w hSw
            (try dsimp only at hSw)
            go_simp
            try with_reducible rfl
          try simp only [Act.put, List.setIfInBounds_toArray, List.set_cons_zero, List.set_cons_succ]
          refine wpAnyL_ready (rs := [18]) (by kernel_rfl) (by simp) ?_
          refine AllReadyL.cons (o := ?oo18_21) ?ho18_21 (fun K hK => ?st18_21) AllReadyL.nil
          case ho18_21 => simp only [List.getElem?_toArray, List.getElem?_cons_succ, List.getElem?_cons_zero]; rfl
          case st18_21 =>
            obtain ⟨c16, c26⟩ := HC12.out _ HK6.out
            have f26 := HF2.out _ HK6.out
            go_simp
            refine hK.out _ _ (fun h => absurd rfl h) ?_
            clear hK K
            refine wpAnyL_done (by kernel_rfl) ?_ _
            go_wp2_with fail
            go_ret
            have e2 : ((L ++ [(y : Int)]) ++ [(a : Int)]).length = L.length + 2 := by simp
            have h5 := HM6.out
            have h6 := HB6.out
            rw [e2] at h5 h6
            exact ⟨rfl, Has.refs (va := some ⟨bb, 0, none⟩) (vc := vc) (by unfold refsR; rw [List.length_set]; exact Has.gput HRN.out HJ.out c2 h5 (HK6.out.mono (by simp)) h6) HQ.out⟩
    case st15_16 =>
      go_simp
      have hHeld := HC12.out _ (show Keep [] w3 ((w3.drew.alloc (.cells #[] 3)).alloc (.cells #[.int .i64 (a : Int)] 3)) from ((Keep.drew [] _).trans (Keep.alloc [] _ _)).trans (Keep.alloc [] _ _))
      refine hK.out _ _ (fun _ => hHeld) ?_
      clear hK K
      try simp only [Act.put, List.setIfInBounds_toArray, List.set_cons_zero, List.set_cons_succ]
      refine wpAnyL_ready (rs := [13]) (by kernel_rfl) (by simp) ?_
      refine AllReadyL.cons (o := ?oo13_22) ?ho13_22 (fun K hK => ?st13_22) AllReadyL.nil
      case ho13_22 => simp only [List.getElem?_toArray, List.getElem?_cons_succ, List.getElem?_cons_zero]; rfl
      case st13_22 =>
        refine step_append_ints rfl (.tmp 54) (.tmp 61) 23 rfl w3.heap.size 3 i0 Tryz.underlying23 hI.out (.slice (some ⟨_, 0, none⟩) 0 0) 0 [] (L ++ [(y : Int)]) rfl (own_emptyB (by first | exact mA _ _ | exact mB _ _ _ | exact mC _ _ _) (by omega)) (some ⟨lg, lo, none⟩) p cc HPL.out rfl (HI.out.keep (S := []) (by first | exact (Keep.drew [] _).trans (Keep.alloc [] _ _) | exact ((Keep.drew [] _).trans (Keep.alloc [] _ _)).trans (Keep.alloc [] _ _)) (fun _ _ _ => by simp)) HZ.out (by omega) (by first | (simp; done) | (simp; omega)) ?_
        intro v5 w5 hown5 hgrow5
        have hK5 : Keep [] w3 w5 := (show Keep [] w3 _ from by first | exact (Keep.drew [] _).trans (Keep.alloc [] _ _) | exact ((Keep.drew [] _).trans (Keep.alloc [] _ _)).trans (Keep.alloc [] _ _)).grown hgrow5 (fun z e => by simp [Value.ownBlock] at e; omega)
        first
          | (have HY5 := (show Hid (IntsAt w5 (some ⟨w3.heap.size + 1, 0, none⟩) [(a : Int)]) from IntsAt.grew (mC _ _ _) hgrow5 (by simp [Value.ownBlock]) HAB.out.1 HAB.out.2))
          | (have HY5 := (show Hid (IntsAt w5 (some ⟨w3.heap.size, 0, none⟩) [(a : Int)]) from IntsAt.grew (mB _ _ _) hgrow5 (by simp [Value.ownBlock]) HAB.out.1 HAB.out.2))
          | skip
        rw [Nat.zero_add, List.nil_append] at hown5
        have HO5 := (show Hid (w5.ownsRow w3.heap.size 3 1 v5 p (ints (L ++ [(y : Int)]))) from hown5)
        have HK5 := (show Hid (Keep [] w3 w5) from hK5)
        clear hown5 hgrow5 hK5
        refine hK.out _ _ (fun _ => HC12.out _ HK5.out) ?_
        clear hK K
        have hHeld := HC12.out _ HK5.out
        try simp only [Act.put, List.setIfInBounds_toArray, List.set_cons_zero, List.set_cons_succ]
        refine wpAnyL_ready (rs := [16]) (by kernel_rfl) (by simp) ?_
        refine AllReadyL.cons (o := ?oo16_23) ?ho16_23 (fun K hK => ?st16_23) AllReadyL.nil
        case ho16_23 => simp only [List.getElem?_toArray, List.getElem?_cons_succ, List.getElem?_cons_zero]; rfl
        case st16_23 =>
          refine step_append_ints rfl (.tmp 62) (.tmp 64) 23 rfl w3.heap.size 3 i0 Tryz.underlying23 hI.out v5 p (L ++ [(y : Int)]) [(a : Int)] rfl (by first | exact HO5.out | exact HO5.out.alloc _) _ 1 1 rfl rfl (by first | exact HY5.out | exact IntsAt.oneB (heap_alloc_new _ _) HAB.out.1 HAB.out.2) (by simp) (by omega) (by have := HK5.out.size; simp; omega) ?_
          intro v6 w6 hown6 hgrow6
          have hK6 : Keep [] w3 w6 := (show Keep [] w3 _ from by first | exact HK5.out | exact HK5.out.trans (Keep.alloc [] _ _)).grown hgrow6 (own_block HO5.out)
          have HB6 := (show Hid (∀ k, v6.ownBlock = some k → (Value.slice (some ⟨lg, lo, none⟩) p cc).ownBlock = some k ∨ w3.heap.size ≤ k) from fun k e => .inr (own_block hown6 k e))
          have HM6 := (show Hid (IsMid w6 3 v6 ((L ++ [(y : Int)]) ++ [(a : Int)])) from own_mid hown6)
          have HK6 := (show Hid (Keep [] w3 w6) from hK6)
          obtain ⟨l6, d6, hv6⟩ := HM6.out.form
          subst hv6
          clear hown6 hgrow6 hK6
          refine hK.out _ _ (fun _ => HC12.out _ HK6.out) ?_
          clear hK K
          have hHeld := HC12.out _ HK6.out
          try simp only [Act.put, List.setIfInBounds_toArray, List.set_cons_zero, List.set_cons_succ]
          refine wpAnyL_take (i := 17) (oi := ?oi17_24) (v := ?vv17_24) ?hoi17_24 (by kernel_rfl) (by kernel_rfl) (by kernel_rfl) (by kernel_rfl) ?hq17_24 (Or.inl ⟨?hw17_24, ?hy17_24⟩) (by assumption) ?rest17_24
          case hoi17_24 => simp only [List.getElem?_toArray, List.getElem?_cons_succ, List.getElem?_cons_zero]; rfl
          case hq17_24 => exact fun _ _ _ h => h
          case hw17_24 => rfl
          case hy17_24 =>
            intro w hSw
            (try dsimp only at hSw)
            go_simp
            try with_reducible rfl
          try simp only [Act.put, List.setIfInBounds_toArray, List.set_cons_zero, List.set_cons_succ]
          refine wpAnyL_ready (rs := [18]) (by kernel_rfl) (by simp) ?_
          refine AllReadyL.cons (o := ?oo18_25) ?ho18_25 (fun K hK => ?st18_25) AllReadyL.nil
          case ho18_25 => simp only [List.getElem?_toArray, List.getElem?_cons_succ, List.getElem?_cons_zero]; rfl
          case st18_25 =>
            obtain ⟨c16, c26⟩ := HC12.out _ HK6.out
            have f26 := HF2.out _ HK6.out
            go_simp
            refine hK.out _ _ (fun h => absurd rfl h) ?_
            clear hK K
            refine wpAnyL_done (by kernel_rfl) ?_ _
            go_wp2_with fail
            go_ret
            have e2 : ((L ++ [(y : Int)]) ++ [(a : Int)]).length = L.length + 2 := by simp
            have h5 := HM6.out
            have h6 := HB6.out
            rw [e2] at h5 h6
            exact ⟨rfl, Has.refs (va := some ⟨bb, 0, none⟩) (vc := vc) (by unfold refsR; rw [List.length_set]; exact Has.gput HRN.out HJ.out c2 h5 (HK6.out.mono (by simp)) h6) HQ.out⟩
  case st15_14 =>
    go_simp
    have hHeld := HC12.out _ (show Keep [] w3 (w3.drew.alloc (.cells #[.int .i64 (a : Int)] 3)) from (Keep.drew [] _).trans (Keep.alloc [] _ _))
    refine hK.out _ _ (fun _ => hHeld) ?_
    clear hK K
    try simp only [Act.put, List.setIfInBounds_toArray, List.set_cons_zero, List.set_cons_succ]
    refine wpAnyL_ready (rs := [5]) (by kernel_rfl) (by simp) ?_
    refine AllReadyL.cons (o := ?oo5_26) ?ho5_26 (fun K hK => ?st5_26) AllReadyL.nil
    case ho5_26 => simp only [List.getElem?_toArray, List.getElem?_cons_succ, List.getElem?_cons_zero]; rfl
    case st5_26 =>
      go_simp
      have hHeld := HC12.out _ (show Keep [] w3 ((w3.drew.alloc (.cells #[.int .i64 (a : Int)] 3)).alloc (.cells #[] 3)) from ((Keep.drew [] _).trans (Keep.alloc [] _ _)).trans (Keep.alloc [] _ _))
      refine hK.out _ _ (fun _ => hHeld) ?_
      clear hK K
      try simp only [Act.put, List.setIfInBounds_toArray, List.set_cons_zero, List.set_cons_succ]
      refine wpAnyL_ready (rs := [13]) (by kernel_rfl) (by simp) ?_
      refine AllReadyL.cons (o := ?oo13_27) ?ho13_27 (fun K hK => ?st13_27) AllReadyL.nil
      case ho13_27 => simp only [List.getElem?_toArray, List.getElem?_cons_succ, List.getElem?_cons_zero]; rfl
      case st13_27 =>
        refine step_append_ints rfl (.tmp 54) (.tmp 61) 23 rfl w3.heap.size 3 i0 Tryz.underlying23 hI.out (.slice (some ⟨_, 0, none⟩) 0 0) 0 [] (L ++ [(y : Int)]) rfl (own_emptyB (by first | exact mA _ _ | exact mB _ _ _ | exact mC _ _ _) (by omega)) (some ⟨lg, lo, none⟩) p cc HPL.out rfl (HI.out.keep (S := []) (by first | exact (Keep.drew [] _).trans (Keep.alloc [] _ _) | exact ((Keep.drew [] _).trans (Keep.alloc [] _ _)).trans (Keep.alloc [] _ _)) (fun _ _ _ => by simp)) HZ.out (by omega) (by first | (simp; done) | (simp; omega)) ?_
        intro v5 w5 hown5 hgrow5
        have hK5 : Keep [] w3 w5 := (show Keep [] w3 _ from by first | exact (Keep.drew [] _).trans (Keep.alloc [] _ _) | exact ((Keep.drew [] _).trans (Keep.alloc [] _ _)).trans (Keep.alloc [] _ _)).grown hgrow5 (fun z e => by simp [Value.ownBlock] at e; omega)
        first
          | (have HY5 := (show Hid (IntsAt w5 (some ⟨w3.heap.size + 1, 0, none⟩) [(a : Int)]) from IntsAt.grew (mC _ _ _) hgrow5 (by simp [Value.ownBlock]) HAB.out.1 HAB.out.2))
          | (have HY5 := (show Hid (IntsAt w5 (some ⟨w3.heap.size, 0, none⟩) [(a : Int)]) from IntsAt.grew (mB _ _ _) hgrow5 (by simp [Value.ownBlock]) HAB.out.1 HAB.out.2))
          | skip
        rw [Nat.zero_add, List.nil_append] at hown5
        have HO5 := (show Hid (w5.ownsRow w3.heap.size 3 1 v5 p (ints (L ++ [(y : Int)]))) from hown5)
        have HK5 := (show Hid (Keep [] w3 w5) from hK5)
        clear hown5 hgrow5 hK5
        refine hK.out _ _ (fun _ => HC12.out _ HK5.out) ?_
        clear hK K
        have hHeld := HC12.out _ HK5.out
        try simp only [Act.put, List.setIfInBounds_toArray, List.set_cons_zero, List.set_cons_succ]
        refine wpAnyL_ready (rs := [16]) (by kernel_rfl) (by simp) ?_
        refine AllReadyL.cons (o := ?oo16_28) ?ho16_28 (fun K hK => ?st16_28) AllReadyL.nil
        case ho16_28 => simp only [List.getElem?_toArray, List.getElem?_cons_succ, List.getElem?_cons_zero]; rfl
        case st16_28 =>
          refine step_append_ints rfl (.tmp 62) (.tmp 64) 23 rfl w3.heap.size 3 i0 Tryz.underlying23 hI.out v5 p (L ++ [(y : Int)]) [(a : Int)] rfl (by first | exact HO5.out | exact HO5.out.alloc _) _ 1 1 rfl rfl (by first | exact HY5.out | exact IntsAt.oneB (heap_alloc_new _ _) HAB.out.1 HAB.out.2) (by simp) (by omega) (by have := HK5.out.size; simp; omega) ?_
          intro v6 w6 hown6 hgrow6
          have hK6 : Keep [] w3 w6 := (show Keep [] w3 _ from by first | exact HK5.out | exact HK5.out.trans (Keep.alloc [] _ _)).grown hgrow6 (own_block HO5.out)
          have HB6 := (show Hid (∀ k, v6.ownBlock = some k → (Value.slice (some ⟨lg, lo, none⟩) p cc).ownBlock = some k ∨ w3.heap.size ≤ k) from fun k e => .inr (own_block hown6 k e))
          have HM6 := (show Hid (IsMid w6 3 v6 ((L ++ [(y : Int)]) ++ [(a : Int)])) from own_mid hown6)
          have HK6 := (show Hid (Keep [] w3 w6) from hK6)
          obtain ⟨l6, d6, hv6⟩ := HM6.out.form
          subst hv6
          clear hown6 hgrow6 hK6
          refine hK.out _ _ (fun _ => HC12.out _ HK6.out) ?_
          clear hK K
          have hHeld := HC12.out _ HK6.out
          try simp only [Act.put, List.setIfInBounds_toArray, List.set_cons_zero, List.set_cons_succ]
          refine wpAnyL_take (i := 17) (oi := ?oi17_29) (v := ?vv17_29) ?hoi17_29 (by kernel_rfl) (by kernel_rfl) (by kernel_rfl) (by kernel_rfl) ?hq17_29 (Or.inl ⟨?hw17_29, ?hy17_29⟩) (by assumption) ?rest17_29
          case hoi17_29 => simp only [List.getElem?_toArray, List.getElem?_cons_succ, List.getElem?_cons_zero]; rfl
          case hq17_29 => exact fun _ _ _ h => h
          case hw17_29 => rfl
          case hy17_29 =>
            intro w hSw
            (try dsimp only at hSw)
            go_simp
            try with_reducible rfl
          try simp only [Act.put, List.setIfInBounds_toArray, List.set_cons_zero, List.set_cons_succ]
          refine wpAnyL_ready (rs := [18]) (by kernel_rfl) (by simp) ?_
          refine AllReadyL.cons (o := ?oo18_30) ?ho18_30 (fun K hK => ?st18_30) AllReadyL.nil
          case ho18_30 => simp only [List.getElem?_toArray, List.getElem?_cons_succ, List.getElem?_cons_zero]; rfl
          case st18_30 =>
            obtain ⟨c16, c26⟩ := HC12.out _ HK6.out
            have f26 := HF2.out _ HK6.out
            go_simp
            refine hK.out _ _ (fun h => absurd rfl h) ?_
            clear hK K
            refine wpAnyL_done (by kernel_rfl) ?_ _
            go_wp2_with fail
            go_ret
            have e2 : ((L ++ [(y : Int)]) ++ [(a : Int)]).length = L.length + 2 := by simp
            have h5 := HM6.out
            have h6 := HB6.out
            rw [e2] at h5 h6
            exact ⟨rfl, Has.refs (va := some ⟨bb, 0, none⟩) (vc := vc) (by unfold refsR; rw [List.length_set]; exact Has.gput HRN.out HJ.out c2 h5 (HK6.out.mono (by simp)) h6) HQ.out⟩
end

end Go.Proofs.YtamcoejlghfleaaGreat

/-
  The document's own references: what Poll answers and leaves.
-/
namespace Go.Proofs.YtamcoejlghfleaaGreat
open Go.RowKit

theorem has_right_star {w0 w : World} {F0 : List Nat} {A B C : Asn} (h : Has w0 F0 ((A.star B).star C) w) : Has w0 F0 (B.star (C.star A)) w :=
  h.assoc.comm.assoc
theorem has_back_star {w0 w : World} {F0 : List Nat} {A B C : Asn} (h : Has w0 F0 (B.star (C.star A)) w) : Has w0 F0 ((A.star B).star C) w :=
  h.assoc'.comm.assoc'
section
variable {w0 : World} {F0 : List Nat} {rb mb : Nat} {S : Int} {va : Option Addr} {vc : Nat} {ws : List Int} {kd : List PK} {ds : List (Int × List Int)} {Ls : List (List Int)}

set_option maxHeartbeats 1600000 in
theorem fpoll_none (i : Int) (w : World) (h : Has w0 F0 (refsA rb mb S ws kd ds Ls) w) (hi : ¬ IsQ Ls i) :
    Calls Tryz.prog 16 #[.pointer (some ⟨rb, 0, none⟩), .int .i64 i] w fun e w' => e = .returned (.agg #[.int .i64 0, .int .i64 2]) ∧ Keep [] w w' := by
  have hK := Keep.alloc [] w (.cells #[.int .i64 0, .int .i64 0] 34)
  have hx := heap_alloc_new w (.cells #[.int .i64 0, .int .i64 0] 34)
  obtain ⟨va, vc, hr⟩ := h.fraw
  obtain ⟨_, c1, _⟩ := (hr.keep0 hK).fcells
  have HB := (show Hid (qhasB Ls.length i = false) from qhasB_no hi)
  clear h hr hi
  go_enter Tryz.func16, Tryz.ntmps16
  go_upto_region 1 with fail
  generalize w.alloc (.cells #[.int .i64 0, .int .i64 0] 34) = w1 at *
  obtain ⟨bx, hbx⟩ : ∃ bx, w.heap.size = bx := ⟨_, rfl⟩
  have HBX := hid hbx
  rw [hbx] at hx ⊢
  have HC := hid c1
  clear hbx c1
  obtain ⟨f0, f1⟩ := two_free hx
  obtain ⟨d0, d1⟩ := two_cells hx
  go_wp2_with (first | (go_at_call 45; refine (fhas _ i _ HC.out).mono ?_; rw [HB.out]; rintro e w2 ⟨rfl, rfl⟩))
  obtain ⟨z, hk4⟩ := two_put hx (.int .i64 0) (.int .i64 2)
  refine bodyPost_ret (results_cell_row rfl _ _ bx 34 #[.int .i64 0, .int .i64 2] (0, 0) _ rfl z Tryz.underlying34 rfl (by kernel_rfl)) rfl ?_
  exact ⟨rfl, ((hK.mono (T := [bx]) (by simp)).trans hk4).drop (by have := HBX.out; simp; omega)⟩
set_option maxHeartbeats 1600000 in
theorem fpoll_empty (j : Nat) (w : World) (h : Has w0 F0 (refsA rb mb S ws kd ds Ls) w) (hL : Ls[j]? = some []) :
    Calls Tryz.prog 16 #[.pointer (some ⟨rb, 0, none⟩), .int .i64 j] w fun e w' => e = .returned (.agg #[.int .i64 0, .int .i64 0]) ∧ Keep [] w w' := by
  have hK := Keep.alloc [] w (.cells #[.int .i64 0, .int .i64 0] 34)
  have hx := heap_alloc_new w (.cells #[.int .i64 0, .int .i64 0] 34)
  obtain ⟨va, vc, hr⟩ := h.fraw
  obtain ⟨_, c1, _⟩ := (hr.keep0 hK).fcells
  have hj := isQ_j hL
  have HB := (show Hid (qhasB Ls.length j = true) from qhasB_yes (by omega))
  obtain ⟨bb, v, rfl, c2, _, hm, _⟩ := (hr.keep0 hK).grow hL
  obtain ⟨la, cc, rfl⟩ := hm.form
  rw [List.length_nil] at c2
  obtain ⟨n, hn⟩ : ∃ n, Ls.length = n := ⟨_, rfl⟩
  rw [hn] at c1 hj HB
  clear h hr hL hm hn
  go_enter Tryz.func16, Tryz.ntmps16
  go_upto_region 1 with fail
  generalize w.alloc (.cells #[.int .i64 0, .int .i64 0] 34) = w1 at *
  obtain ⟨bx, hbx⟩ : ∃ bx, w.heap.size = bx := ⟨_, rfl⟩
  have HBX := hid hbx
  rw [hbx] at hx ⊢
  have HC := hid c1
  clear hbx
  obtain ⟨f0, f1⟩ := two_free hx
  obtain ⟨d0, d1⟩ := two_cells hx
  go_wp2_with (first | (go_at_call 45; refine (fhas _ j _ HC.out).mono ?_; rw [HB.out]; rintro e w2 ⟨rfl, rfl⟩))
  obtain ⟨z, hk4⟩ := two_put hx (.int .i64 0) (.int .i64 0)
  refine bodyPost_ret (results_cell_row rfl _ _ bx 34 #[.int .i64 0, .int .i64 0] (0, 0) _ rfl z Tryz.underlying34 rfl (by kernel_rfl)) rfl ?_
  exact ⟨rfl, ((hK.mono (T := [bx]) (by simp)).trans hk4).drop (by have := HBX.out; simp; omega)⟩
set_option maxRecDepth 100000 in
set_option maxHeartbeats 8000000 in
theorem fpoll_yes (j a : Nat) (L : List Int) (w : World) (h : Has w0 F0 (refsA rb mb S ws kd ds Ls) w) (hL : Ls[j]? = some ((a : Int) :: L)) (hA : RefA kd ws a) :
    Calls Tryz.prog 16 #[.pointer (some ⟨rb, 0, none⟩), .int .i64 j] w fun e w' => e = .returned (.agg #[.int .i64 a, .int .i64 0]) ∧ Has w0 F0 (refsA rb mb S (ws.set (a + 3) 0) kd ds (Ls.set j L)) w' := by
  obtain ⟨i0, hi, hz0, hz1, hz2⟩ := info_parts Tryz.infoIntQ
  have hI : Hid (Tryz.prog.info? 3 = some i0 ∧ i0.zero = some (.int .i64 0) ∧ i0.size = 1 ∧ i0.bytes = 8) := ⟨hi, hz0, hz1, hz2⟩
  clear hi hz0 hz1 hz2
  have hf := h.fheap.rfine
  have hj := isQ_j hL
  have hab := hA.place hf
  have ha2 : a ≤ 20000 := by have := hf.len; have := hf.wf.len2; omega
  have HP1 := (show Hid (PutT kd ws (a : Int) 2 0 0 (ws.set (a + 3) 0)) from hA.put hf 0)
  have hLq := h.fok.2 _ (List.mem_of_getElem? hL)
  have HQ := (show Hid (QOK (Ls.set j L)) from h.fok.set j (by have := hLq.1; simp at this; omega) (fun i => by have := hLq.2 (i + 1); simpa using this))
  obtain ⟨va, vc, hr⟩ := h.fraw
  have hx := hr.newB (.cells #[.int .i64 0, .int .i64 0] 34)
  have hK := Keep.alloc [] w (.cells #[.int .i64 0, .int .i64 0] 34)
  have HB := (show Hid (qhasB Ls.length j = true) from qhasB_yes (by omega))
  have HL := hid hL
  have HJ := hid hj
  obtain ⟨n, hn⟩ : ∃ n, Ls.length = n := ⟨_, rfl⟩
  have HN := hid hn
  rw [hn] at hj HB
  have HLR := (show Hid (inR ((a : Int) :: L)) from hLq.2)
  have HLL := (show Hid (((a : Int) :: L).length ≤ 1000000) from hLq.1)
  clear h hA hn hf hab hr hK hLq
  go_enter Tryz.func16, Tryz.ntmps16
  go_upto_region 1 with fail
  generalize w.alloc (.cells #[.int .i64 0, .int .i64 0] 34) = w1 at *
  generalize w.heap.size = bx at *
  obtain ⟨bb, v, rfl, c2, _, hm, n1, n2, n3, _⟩ := Has.grow hx.assoc HL.out
  obtain ⟨lq, cc, rfl⟩ := hm.form
  obtain ⟨hI2, _, hz2, hcc⟩ := hm.ints HLR.out
  obtain ⟨lg, lo, rfl, hlg, hcs⟩ := hI2.cells (by simp)
  have hcy : w1.cell? ⟨lg, lo, none⟩ = some (.int .i64 a) := by have := hcs 0 (by simp); simpa using this
  obtain ⟨_, c1, _⟩ := robj_cells hx.fst.fst.fst
  rw [HN.out] at c1
  obtain ⟨q, hq⟩ : ∃ q, L.length = q := ⟨_, rfl⟩
  obtain ⟨p, hp0⟩ : ∃ p, ((a : Int) :: L).length = p := ⟨_, rfl⟩
  have hpq : p = q + 1 := by rw [← hp0, List.length_cons, hq]
  have hp2 : p ≤ 1000000 := by rw [← hp0]; exact HLL.out
  have hdp : (p == 0) = false := by rw [beq_eq_false_iff_ne]; omega
  have hp3 : 0 < p := by omega
  have hp1i : (1 : Int) ≤ p := by omega
  have HLQ := hid hq
  have HPQ := hid hpq
  rw [hp0] at c2 n1 n2 hm hcc
  have HX := hid hx
  have HC := hid c1
  clear hL hm hI2 hz2 hcs hlg hp0 hq hpq hx
  go_upto_region 6 with (first | (go_at_call 45; refine (fhas _ j _ HC.out).mono ?_; rw [HB.out]; rintro e w2 ⟨rfl, rfl⟩))
  have hmA := (Has.growAt HX.out.assoc HL.out c2)
  obtain ⟨f2, hm2, m1, m2, _⟩ := hmA
  obtain ⟨hI3, _, hz3, _⟩ := hm2.ints HLR.out
  have HI0 := (show Hid (IntsAt w1 (some ⟨lg, lo + 1, none⟩) L) from by show IntsAt _ _ _; have := hI3.drop 1; simpa using this)
  have hl1 := lt_of_cell2' c1
  have hl2 := lt_of_cell2' c2
  have hji : (j : Int) < n := by omega
  have hj0i : (0 : Int) ≤ j := by omega
  have HC12 := (show Hid (∀ w', Keep [] w1 w' → w'.cell? ⟨rb, 1, none⟩ = some (.slice (some ⟨bb, 0, none⟩) n vc) ∧ w'.cell? ⟨bb, j, none⟩ = some (.slice (some ⟨lg, lo, none⟩) p cc)) from fun w' K => ⟨(K.cell hl1 (by simp) 1).trans c1, (K.cell hl2 (by simp) j).trans c2⟩)
  have HF2 := (show Hid (∀ w', Keep [] w1 w' → w'.frozen? ⟨bb, j, none⟩ = false) from fun w' K => (World.frozen?_of_block (w := w1) (a := ⟨bb, j, none⟩) (K.block bb hl2 (by simp))).trans f2)
  clear hm2 m1 m2 hI3 hz3 hl1 hl2 f2 HC HB n1 n2 hcy
  by_cases hc1 : cc = 1
  · have HLN := (show Hid (L = [] ∧ p = 1 ∧ cc = 1) from by
      have := HPQ.out
      have := HLQ.out
      exact ⟨List.length_eq_zero_iff.1 (by omega), by omega, hc1⟩)
    obtain ⟨hln, hp1, _⟩ := HLN.out
    subst hc1
    subst hp1
    have HI := (show Hid (IntsAt w1 (some ⟨lg, lo, none⟩) L) from by show IntsAt _ _ _; rw [hln]; exact IntsAt.nil _ _)
    have HL0 := (show Hid (L.length = 0) from by show L.length = 0; rw [hln]; rfl)
    clear hln HLN HI0
    refine wp_region_last (S := fun wz => wz.cell? ⟨rb, 1, none⟩ = some (.slice (some ⟨bb, 0, none⟩) n vc) ∧ wz.cell? ⟨bb, j, none⟩ = some (.slice (some ⟨lg, lo, none⟩) 1 1)) 16 (by kernel_rfl) (HC12.out _ (Keep.drew [] _)) (fun hHeld => ?_)
    refine wpAnyL_take (i := 0) (oi := ?oi0_1) (v := ?vv0_1) ?hoi0_1 (by kernel_rfl) (by kernel_rfl) (by kernel_rfl) (by kernel_rfl) ?hq0_1 (Or.inl ⟨?hw0_1, ?hy0_1⟩) (by assumption) ?rest0_1
    case hoi0_1 => simp only [List.getElem?_toArray, List.getElem?_cons_zero]; rfl
    case hq0_1 => exact fun _ _ _ h => h
    case hw0_1 => rfl
    case hy0_1 =>
      intro w hSw
      (try dsimp only at hSw)
      go_simp
      try with_reducible rfl
    try simp only [Act.put, List.setIfInBounds_toArray, List.set_cons_zero, List.set_cons_succ]
    refine wpAnyL_take (i := 1) (oi := ?oi1_2) (v := ?vv1_2) ?hoi1_2 (by kernel_rfl) (by kernel_rfl) (by kernel_rfl) (by kernel_rfl) ?hq1_2 (Or.inl ⟨?hw1_2, ?hy1_2⟩) (by assumption) ?rest1_2
    case hoi1_2 => simp only [List.getElem?_toArray, List.getElem?_cons_succ, List.getElem?_cons_zero]; rfl
    case hq1_2 => exact fun _ _ _ h => h
    case hw1_2 => rfl
    case hy1_2 =>
      intro w hSw
      (try dsimp only at hSw)
      go_simp
      try with_reducible rfl
    try simp only [Act.put, List.setIfInBounds_toArray, List.set_cons_zero, List.set_cons_succ]
    refine wpAnyL_take (i := 2) (oi := ?oi2_3) (v := ?vv2_3) ?hoi2_3 (by kernel_rfl) (by kernel_rfl) (by kernel_rfl) (by kernel_rfl) ?hq2_3 (Or.inl ⟨?hw2_3, ?hy2_3⟩) (by assumption) ?rest2_3
    case hoi2_3 => simp only [List.getElem?_toArray, List.getElem?_cons_succ, List.getElem?_cons_zero]; rfl
    case hq2_3 => exact fun _ _ _ h => h
    case hw2_3 => rfl
    case hy2_3 =>
      intro w hSw
      (try dsimp only at hSw)
      go_simp
      try with_reducible rfl
    try simp only [Act.put, List.setIfInBounds_toArray, List.set_cons_zero, List.set_cons_succ]
    refine wpAnyL_take (i := 3) (oi := ?oi3_4) (v := ?vv3_4) ?hoi3_4 (by kernel_rfl) (by kernel_rfl) (by kernel_rfl) (by kernel_rfl) ?hq3_4 (Or.inl ⟨?hw3_4, ?hy3_4⟩) (by assumption) ?rest3_4
    case hoi3_4 => simp only [List.getElem?_toArray, List.getElem?_cons_succ, List.getElem?_cons_zero]; rfl
    case hq3_4 => exact fun _ _ _ h => h
    case hw3_4 => rfl
    case hy3_4 =>
      intro w hSw
      (try dsimp only at hSw)
      go_simp
      try with_reducible rfl
    try simp only [Act.put, List.setIfInBounds_toArray, List.set_cons_zero, List.set_cons_succ]
    refine wpAnyL_take (i := 4) (oi := ?oi4_5) (v := ?vv4_5) ?hoi4_5 (by kernel_rfl) (by kernel_rfl) (by kernel_rfl) (by kernel_rfl) ?hq4_5 (Or.inl ⟨?hw4_5, ?hy4_5⟩) (by assumption) ?rest4_5
    case hoi4_5 => simp only [List.getElem?_toArray, List.getElem?_cons_succ, List.getElem?_cons_zero]; rfl
    case hq4_5 => exact fun _ _ _ h => h
    case hw4_5 => rfl
    case hy4_5 =>
      intro w hSw
      (try dsimp only at hSw)
      go_simp
      try with_reducible rfl
    try simp only [Act.put, List.setIfInBounds_toArray, List.set_cons_zero, List.set_cons_succ]
    refine wpAnyL_take (i := 6) (oi := ?oi6_6) (v := ?vv6_6) ?hoi6_6 (by kernel_rfl) (by kernel_rfl) (by kernel_rfl) (by kernel_rfl) ?hq6_6 (Or.inl ⟨?hw6_6, ?hy6_6⟩) (by assumption) ?rest6_6
    case hoi6_6 => simp only [List.getElem?_toArray, List.getElem?_cons_succ, List.getElem?_cons_zero]; rfl
    case hq6_6 => exact fun _ _ _ h => h
    case hw6_6 => rfl
    case hy6_6 =>
      intro w hSw
      (try dsimp only at hSw)
      go_simp
      try with_reducible rfl
    try simp only [Act.put, List.setIfInBounds_toArray, List.set_cons_zero, List.set_cons_succ]
    refine wpAnyL_take (i := 7) (oi := ?oi7_7) (v := ?vv7_7) ?hoi7_7 (by kernel_rfl) (by kernel_rfl) (by kernel_rfl) (by kernel_rfl) ?hq7_7 (Or.inl ⟨?hw7_7, ?hy7_7⟩) (by assumption) ?rest7_7
    case hoi7_7 => simp only [List.getElem?_toArray, List.getElem?_cons_succ, List.getElem?_cons_zero]; rfl
    case hq7_7 => exact fun _ _ _ h => h
    case hw7_7 => rfl
    case hy7_7 =>
      intro w hSw
      (try dsimp only at hSw)
      go_simp
      try with_reducible rfl
    try simp only [Act.put, List.setIfInBounds_toArray, List.set_cons_zero, List.set_cons_succ]
    refine wpAnyL_take (i := 8) (oi := ?oi8_8) (v := ?vv8_8) ?hoi8_8 (by kernel_rfl) (by kernel_rfl) (by kernel_rfl) (by kernel_rfl) ?hq8_8 (Or.inl ⟨?hw8_8, ?hy8_8⟩) (by assumption) ?rest8_8
    case hoi8_8 => simp only [List.getElem?_toArray, List.getElem?_cons_succ, List.getElem?_cons_zero]; rfl
    case hq8_8 => exact fun _ _ _ h => h
    case hw8_8 => rfl
    case hy8_8 =>
      intro w hSw
      (try dsimp only at hSw)
      go_simp
      try with_reducible rfl
    try simp only [Act.put, List.setIfInBounds_toArray, List.set_cons_zero, List.set_cons_succ]
    refine wpAnyL_take (i := 9) (oi := ?oi9_9) (v := ?vv9_9) ?hoi9_9 (by kernel_rfl) (by kernel_rfl) (by kernel_rfl) (by kernel_rfl) ?hq9_9 (Or.inl ⟨?hw9_9, ?hy9_9⟩) (by assumption) ?rest9_9
    case hoi9_9 => simp only [List.getElem?_toArray, List.getElem?_cons_succ, List.getElem?_cons_zero]; rfl
    case hq9_9 => exact fun _ _ _ h => h
    case hw9_9 => rfl
    case hy9_9 =>
      intro w hSw
      (try dsimp only at hSw)
      go_simp
      try with_reducible rfl
    try simp only [Act.put, List.setIfInBounds_toArray, List.set_cons_zero, List.set_cons_succ]
    refine wpAnyL_take (i := 10) (oi := ?oi10_10) (v := ?vv10_10) ?hoi10_10 (by kernel_rfl) (by kernel_rfl) (by kernel_rfl) (by kernel_rfl) ?hq10_10 (Or.inl ⟨?hw10_10, ?hy10_10⟩) (by assumption) ?rest10_10
    case hoi10_10 => simp only [List.getElem?_toArray, List.getElem?_cons_succ, List.getElem?_cons_zero]; rfl
    case hq10_10 => exact fun _ _ _ h => h
    case hw10_10 => rfl
    case hy10_10 =>
      intro w hSw
      (try dsimp only at hSw)
      go_simp
      try with_reducible rfl
    try simp only [Act.put, List.setIfInBounds_toArray, List.set_cons_zero, List.set_cons_succ]
    refine wpAnyL_take (i := 11) (oi := ?oi11_11) (v := ?vv11_11) ?hoi11_11 (by kernel_rfl) (by kernel_rfl) (by kernel_rfl) (by kernel_rfl) ?hq11_11 (Or.inl ⟨?hw11_11, ?hy11_11⟩) (by assumption) ?rest11_11
    case hoi11_11 => simp only [List.getElem?_toArray, List.getElem?_cons_succ, List.getElem?_cons_zero]; rfl
    case hq11_11 => exact fun _ _ _ h => h
    case hw11_11 => rfl
    case hy11_11 =>
      intro w hSw
      (try dsimp only at hSw)
      go_simp
      try with_reducible rfl
    try simp only [Act.put, List.setIfInBounds_toArray, List.set_cons_zero, List.set_cons_succ]
    refine wpAnyL_take (i := 12) (oi := ?oi12_12) (v := ?vv12_12) ?hoi12_12 (by kernel_rfl) (by kernel_rfl) (by kernel_rfl) (by kernel_rfl) ?hq12_12 (Or.inl ⟨?hw12_12, ?hy12_12⟩) (by assumption) ?rest12_12
    case hoi12_12 => simp only [List.getElem?_toArray, List.getElem?_cons_succ, List.getElem?_cons_zero]; rfl
    case hq12_12 => exact fun _ _ _ h => h
    case hw12_12 => rfl
    case hy12_12 =>
      intro w hSw
      (try dsimp only at hSw)
      go_simp
      try with_reducible rfl
    try simp only [Act.put, List.setIfInBounds_toArray, List.set_cons_zero, List.set_cons_succ]
    refine wpAnyL_take (i := 13) (oi := ?oi13_13) (v := ?vv13_13) ?hoi13_13 (by kernel_rfl) (by kernel_rfl) (by kernel_rfl) (by kernel_rfl) ?hq13_13 (Or.inl ⟨?hw13_13, ?hy13_13⟩) (by assumption) ?rest13_13
    case hoi13_13 => simp only [List.getElem?_toArray, List.getElem?_cons_succ, List.getElem?_cons_zero]; rfl
    case hq13_13 => exact fun _ _ _ h => h
    case hw13_13 => rfl
    case hy13_13 =>
      intro w hSw
      (try dsimp only at hSw)
      go_simp
      try with_reducible rfl
    try simp only [Act.put, List.setIfInBounds_toArray, List.set_cons_zero, List.set_cons_succ]
    refine wpAnyL_ready (rs := [5]) (by kernel_rfl) (by simp) ?_
    refine AllReadyL.cons (o := ?oo5_14) ?ho5_14 (fun K hK => ?st5_14) AllReadyL.nil
    case ho5_14 => simp only [List.getElem?_toArray, List.getElem?_cons_succ, List.getElem?_cons_zero]; rfl
    case st5_14 =>
      go_simp
      have hHeld := HC12.out _ (show Keep [] w1 (w1.drew.alloc (.cells #[] 3)) from (Keep.drew [] _).trans (Keep.alloc [] _ _))
      refine hK.out _ _ (fun _ => hHeld) ?_
      clear hK K
      try simp only [Act.put, List.setIfInBounds_toArray, List.set_cons_zero, List.set_cons_succ]
      refine wpAnyL_ready (rs := [14]) (by kernel_rfl) (by simp) ?_
      refine AllReadyL.cons (o := ?oo14_15) ?ho14_15 (fun K hK => ?st14_15) AllReadyL.nil
      case ho14_15 => simp only [List.getElem?_toArray, List.getElem?_cons_succ, List.getElem?_cons_zero]; rfl
      case st14_15 =>
        refine step_append_ints rfl (.tmp 35) (.tmp 43) 23 rfl w1.heap.size 3 i0 Tryz.underlying23 hI.out (.slice (some ⟨_, 0, none⟩) 0 0) 0 [] L rfl (own_emptyB (mA _ _) (by omega)) (some ⟨lg, lo, none⟩) 0 0 HL0.out rfl (HI.out.keep (S := []) ((Keep.drew [] _).trans (Keep.alloc [] _ _)) (fun _ _ _ => by simp)) (fun e => by cases e) (by omega) (by first | (simp; done) | (simp; omega)) ?_
        intro v6 w6 hown6 hgrow6
        have hK6 : Keep [] w1 w6 := (show Keep [] w1 _ from (Keep.drew [] _).trans (Keep.alloc [] _ _)).grown hgrow6 (fun z e => by simp [Value.ownBlock] at e; omega)
        rw [List.nil_append] at hown6
        have HB6 := (show Hid (∀ k, v6.ownBlock = some k → (Value.slice (some ⟨lg, lo, none⟩) 1 1).ownBlock = some k ∨ w1.heap.size ≤ k) from fun k e => .inr (own_block hown6 k e))
        have HM6 := (show Hid (IsMid w6 3 v6 L) from own_mid hown6)
        have HK6 := (show Hid (Keep [] w1 w6) from hK6)
        obtain ⟨l6, d6, hv6⟩ := HM6.out.form
        subst hv6
        clear hown6 hgrow6 hK6
        refine hK.out _ _ (fun _ => HC12.out _ HK6.out) ?_
        clear hK K
        have hHeld := HC12.out _ HK6.out
        try simp only [Act.put, List.setIfInBounds_toArray, List.set_cons_zero, List.set_cons_succ]
        refine wpAnyL_take (i := 15) (oi := ?oi15_16) (v := ?vv15_16) ?hoi15_16 (by kernel_rfl) (by kernel_rfl) (by kernel_rfl) (by kernel_rfl) ?hq15_16 (Or.inl ⟨?hw15_16, ?hy15_16⟩) (by assumption) ?rest15_16
        case hoi15_16 => simp only [List.getElem?_toArray, List.getElem?_cons_succ, List.getElem?_cons_zero]; rfl
        case hq15_16 => exact fun _ _ _ h => h
        case hw15_16 => rfl
        case hy15_16 =>
          intro w hSw
          (try dsimp only at hSw)
          go_simp
          try with_reducible rfl
        try simp only [Act.put, List.setIfInBounds_toArray, List.set_cons_zero, List.set_cons_succ]
        refine wpAnyL_ready (rs := [16]) (by kernel_rfl) (by simp) ?_
        refine AllReadyL.cons (o := ?oo16_17) ?ho16_17 (fun K hK => ?st16_17) AllReadyL.nil
        case ho16_17 => simp only [List.getElem?_toArray, List.getElem?_cons_succ, List.getElem?_cons_zero]; rfl
        case st16_17 =>
          obtain ⟨c16, c26⟩ := HC12.out _ HK6.out
          have f26 := HF2.out _ HK6.out
          go_simp
          refine hK.out _ _ (fun h => absurd rfl h) ?_
          clear hK K
          refine wpAnyL_done (by kernel_rfl) ?_ _
          have h5 := HM6.out
          have h6 := HB6.out
          have hX7 := (Has.gput HX.out.assoc HJ.out c2 h5 (HK6.out.mono (by simp)) h6).assoc'
          have HX7 := hid hX7
          clear hX7 h5 h6 HB6 HM6 HK6 c16 c26 f26 c1 c2 HX
          generalize w6.setCell _ _ = w7 at *
          obtain ⟨c0, _, _⟩ := robj_cells HX7.out.fst.fst.fst
          go_wp2_with fail
          refine (has_left (has_right_star HX7.out) (fun F hF => rput a 2 0 0 _ _ hF HP1.out inI_0)).mono ?_
          rintro e w8 ⟨rfl, hX8⟩
          have HX8 := hid (has_back_star hX8)
          have hx8 : w8.heap[bx]? = some (.cells #[.int .i64 0, .int .i64 0] 34 (0, 0)) := HX8.out.snd.fact (fun _ h => h.2)
          obtain ⟨f0, f1⟩ := two_free hx8
          obtain ⟨d0, d1⟩ := two_cells hx8
          clear hX8 HX7 c0
          go_wp2_with fail
          obtain ⟨z, hk6⟩ := two_put hx8 (.int .i64 a) (.int .i64 0)
          refine bodyPost_ret (results_cell_row rfl _ _ bx 34 #[.int .i64 a, .int .i64 0] (0, 0) _ rfl z Tryz.underlying34 rfl (by kernel_rfl)) rfl ?_
          exact ⟨rfl, Has.refs (va := some ⟨bb, 0, none⟩) (vc := vc) (by unfold refsR; rw [List.length_set]; exact (HX8.out.block hk6 z).fst) HQ.out⟩
  · have HI := HI0
    have HL0 := (show Hid (L.length = p - 1) from by have := HPQ.out; have := HLQ.out; show L.length = p - 1; omega)
    clear HI0
    refine wp_region_last (S := fun wz => wz.cell? ⟨rb, 1, none⟩ = some (.slice (some ⟨bb, 0, none⟩) n vc) ∧ wz.cell? ⟨bb, j, none⟩ = some (.slice (some ⟨lg, lo, none⟩) p cc)) 16 (by kernel_rfl) (HC12.out _ (Keep.drew [] _)) (fun hHeld => ?_)
    refine wpAnyL_take (i := 0) (oi := ?oi0_101) (v := ?vv0_101) ?hoi0_101 (by kernel_rfl) (by kernel_rfl) (by kernel_rfl) (by kernel_rfl) ?hq0_101 (Or.inl ⟨?hw0_101, ?hy0_101⟩) (by assumption) ?rest0_101
    case hoi0_101 => simp only [List.getElem?_toArray, List.getElem?_cons_zero]; rfl
    case hq0_101 => exact fun _ _ _ h => h
    case hw0_101 => rfl
    case hy0_101 =>
      intro w hSw
      (try dsimp only at hSw)
      go_simp
      try with_reducible rfl
    try simp only [Act.put, List.setIfInBounds_toArray, List.set_cons_zero, List.set_cons_succ]
    refine wpAnyL_take (i := 1) (oi := ?oi1_102) (v := ?vv1_102) ?hoi1_102 (by kernel_rfl) (by kernel_rfl) (by kernel_rfl) (by kernel_rfl) ?hq1_102 (Or.inl ⟨?hw1_102, ?hy1_102⟩) (by assumption) ?rest1_102
    case hoi1_102 => simp only [List.getElem?_toArray, List.getElem?_cons_succ, List.getElem?_cons_zero]; rfl
    case hq1_102 => exact fun _ _ _ h => h
    case hw1_102 => rfl
    case hy1_102 =>
      intro w hSw
      (try dsimp only at hSw)
      go_simp
      try with_reducible rfl
    try simp only [Act.put, List.setIfInBounds_toArray, List.set_cons_zero, List.set_cons_succ]
    refine wpAnyL_take (i := 2) (oi := ?oi2_103) (v := ?vv2_103) ?hoi2_103 (by kernel_rfl) (by kernel_rfl) (by kernel_rfl) (by kernel_rfl) ?hq2_103 (Or.inl ⟨?hw2_103, ?hy2_103⟩) (by assumption) ?rest2_103
    case hoi2_103 => simp only [List.getElem?_toArray, List.getElem?_cons_succ, List.getElem?_cons_zero]; rfl
    case hq2_103 => exact fun _ _ _ h => h
    case hw2_103 => rfl
    case hy2_103 =>
      intro w hSw
      (try dsimp only at hSw)
      go_simp
      try with_reducible rfl
    try simp only [Act.put, List.setIfInBounds_toArray, List.set_cons_zero, List.set_cons_succ]
    refine wpAnyL_take (i := 3) (oi := ?oi3_104) (v := ?vv3_104) ?hoi3_104 (by kernel_rfl) (by kernel_rfl) (by kernel_rfl) (by kernel_rfl) ?hq3_104 (Or.inl ⟨?hw3_104, ?hy3_104⟩) (by assumption) ?rest3_104
    case hoi3_104 => simp only [List.getElem?_toArray, List.getElem?_cons_succ, List.getElem?_cons_zero]; rfl
    case hq3_104 => exact fun _ _ _ h => h
    case hw3_104 => rfl
    case hy3_104 =>
      intro w hSw
      (try dsimp only at hSw)
      go_simp
      try with_reducible rfl
    try simp only [Act.put, List.setIfInBounds_toArray, List.set_cons_zero, List.set_cons_succ]
    refine wpAnyL_take (i := 4) (oi := ?oi4_105) (v := ?vv4_105) ?hoi4_105 (by kernel_rfl) (by kernel_rfl) (by kernel_rfl) (by kernel_rfl) ?hq4_105 (Or.inl ⟨?hw4_105, ?hy4_105⟩) (by assumption) ?rest4_105
    case hoi4_105 => simp only [List.getElem?_toArray, List.getElem?_cons_succ, List.getElem?_cons_zero]; rfl
    case hq4_105 => exact fun _ _ _ h => h
    case hw4_105 => rfl
    case hy4_105 =>
      intro w hSw
      (try dsimp only at hSw)
      go_simp
      try with_reducible rfl
    try simp only [Act.put, List.setIfInBounds_toArray, List.set_cons_zero, List.set_cons_succ]
    refine wpAnyL_take (i := 6) (oi := ?oi6_106) (v := ?vv6_106) ?hoi6_106 (by kernel_rfl) (by kernel_rfl) (by kernel_rfl) (by kernel_rfl) ?hq6_106 (Or.inl ⟨?hw6_106, ?hy6_106⟩) (by assumption) ?rest6_106
    case hoi6_106 => simp only [List.getElem?_toArray, List.getElem?_cons_succ, List.getElem?_cons_zero]; rfl
    case hq6_106 => exact fun _ _ _ h => h
    case hw6_106 => rfl
    case hy6_106 =>
      intro w hSw
      (try dsimp only at hSw)
      go_simp
      try with_reducible rfl
    try simp only [Act.put, List.setIfInBounds_toArray, List.set_cons_zero, List.set_cons_succ]
    refine wpAnyL_take (i := 7) (oi := ?oi7_107) (v := ?vv7_107) ?hoi7_107 (by kernel_rfl) (by kernel_rfl) (by kernel_rfl) (by kernel_rfl) ?hq7_107 (Or.inl ⟨?hw7_107, ?hy7_107⟩) (by assumption) ?rest7_107
    case hoi7_107 => simp only [List.getElem?_toArray, List.getElem?_cons_succ, List.getElem?_cons_zero]; rfl
    case hq7_107 => exact fun _ _ _ h => h
    case hw7_107 => rfl
    case hy7_107 =>
      intro w hSw
      (try dsimp only at hSw)
      go_simp
      try with_reducible rfl
    try simp only [Act.put, List.setIfInBounds_toArray, List.set_cons_zero, List.set_cons_succ]
    refine wpAnyL_take (i := 8) (oi := ?oi8_108) (v := ?vv8_108) ?hoi8_108 (by kernel_rfl) (by kernel_rfl) (by kernel_rfl) (by kernel_rfl) ?hq8_108 (Or.inl ⟨?hw8_108, ?hy8_108⟩) (by assumption) ?rest8_108
    case hoi8_108 => simp only [List.getElem?_toArray, List.getElem?_cons_succ, List.getElem?_cons_zero]; rfl
    case hq8_108 => exact fun _ _ _ h => h
    case hw8_108 => rfl
    case hy8_108 =>
      intro w hSw
      (try dsimp only at hSw)
      go_simp
      try with_reducible rfl
    try simp only [Act.put, List.setIfInBounds_toArray, List.set_cons_zero, List.set_cons_succ]
    refine wpAnyL_take (i := 9) (oi := ?oi9_109) (v := ?vv9_109) ?hoi9_109 (by kernel_rfl) (by kernel_rfl) (by kernel_rfl) (by kernel_rfl) ?hq9_109 (Or.inl ⟨?hw9_109, ?hy9_109⟩) (by assumption) ?rest9_109
    case hoi9_109 => simp only [List.getElem?_toArray, List.getElem?_cons_succ, List.getElem?_cons_zero]; rfl
    case hq9_109 => exact fun _ _ _ h => h
    case hw9_109 => rfl
    case hy9_109 =>
      intro w hSw
      (try dsimp only at hSw)
      go_simp
      try with_reducible rfl
    try simp only [Act.put, List.setIfInBounds_toArray, List.set_cons_zero, List.set_cons_succ]
    refine wpAnyL_take (i := 10) (oi := ?oi10_110) (v := ?vv10_110) ?hoi10_110 (by kernel_rfl) (by kernel_rfl) (by kernel_rfl) (by kernel_rfl) ?hq10_110 (Or.inl ⟨?hw10_110, ?hy10_110⟩) (by assumption) ?rest10_110
    case hoi10_110 => simp only [List.getElem?_toArray, List.getElem?_cons_succ, List.getElem?_cons_zero]; rfl
    case hq10_110 => exact fun _ _ _ h => h
    case hw10_110 => rfl
    case hy10_110 =>
      intro w hSw
      (try dsimp only at hSw)
      go_simp
      try with_reducible rfl
    try simp only [Act.put, List.setIfInBounds_toArray, List.set_cons_zero, List.set_cons_succ]
    refine wpAnyL_take (i := 11) (oi := ?oi11_111) (v := ?vv11_111) ?hoi11_111 (by kernel_rfl) (by kernel_rfl) (by kernel_rfl) (by kernel_rfl) ?hq11_111 (Or.inl ⟨?hw11_111, ?hy11_111⟩) (by assumption) ?rest11_111
    case hoi11_111 => simp only [List.getElem?_toArray, List.getElem?_cons_succ, List.getElem?_cons_zero]; rfl
    case hq11_111 => exact fun _ _ _ h => h
    case hw11_111 => rfl
    case hy11_111 =>
      intro w hSw
      (try dsimp only at hSw)
      go_simp
      try with_reducible rfl
    try simp only [Act.put, List.setIfInBounds_toArray, List.set_cons_zero, List.set_cons_succ]
    refine wpAnyL_take (i := 12) (oi := ?oi12_112) (v := ?vv12_112) ?hoi12_112 (by kernel_rfl) (by kernel_rfl) (by kernel_rfl) (by kernel_rfl) ?hq12_112 (Or.inl ⟨?hw12_112, ?hy12_112⟩) (by assumption) ?rest12_112
    case hoi12_112 => simp only [List.getElem?_toArray, List.getElem?_cons_succ, List.getElem?_cons_zero]; rfl
    case hq12_112 => exact fun _ _ _ h => h
    case hw12_112 => rfl
    case hy12_112 =>
      intro w hSw
      (try dsimp only at hSw)
      go_simp
      try with_reducible rfl
    try simp only [Act.put, List.setIfInBounds_toArray, List.set_cons_zero, List.set_cons_succ]
    refine wpAnyL_take (i := 13) (oi := ?oi13_113) (v := ?vv13_113) ?hoi13_113 (by kernel_rfl) (by kernel_rfl) (by kernel_rfl) (by kernel_rfl) ?hq13_113 (Or.inl ⟨?hw13_113, ?hy13_113⟩) (by assumption) ?rest13_113
    case hoi13_113 => simp only [List.getElem?_toArray, List.getElem?_cons_succ, List.getElem?_cons_zero]; rfl
    case hq13_113 => exact fun _ _ _ h => h
    case hw13_113 => rfl
    case hy13_113 =>
      intro w hSw
      (try dsimp only at hSw)
      go_simp
      try with_reducible rfl
    try simp only [Act.put, List.setIfInBounds_toArray, List.set_cons_zero, List.set_cons_succ]
    refine wpAnyL_ready (rs := [5]) (by kernel_rfl) (by simp) ?_
    refine AllReadyL.cons (o := ?oo5_114) ?ho5_114 (fun K hK => ?st5_114) AllReadyL.nil
    case ho5_114 => simp only [List.getElem?_toArray, List.getElem?_cons_succ, List.getElem?_cons_zero]; rfl
    case st5_114 =>
      go_simp
      have hHeld := HC12.out _ (show Keep [] w1 (w1.drew.alloc (.cells #[] 3)) from (Keep.drew [] _).trans (Keep.alloc [] _ _))
      refine hK.out _ _ (fun _ => hHeld) ?_
      clear hK K
      try simp only [Act.put, List.setIfInBounds_toArray, List.set_cons_zero, List.set_cons_succ]
      refine wpAnyL_ready (rs := [14]) (by kernel_rfl) (by simp) ?_
      refine AllReadyL.cons (o := ?oo14_115) ?ho14_115 (fun K hK => ?st14_115) AllReadyL.nil
      case ho14_115 => simp only [List.getElem?_toArray, List.getElem?_cons_succ, List.getElem?_cons_zero]; rfl
      case st14_115 =>
        refine step_append_ints rfl (.tmp 35) (.tmp 43) 23 rfl w1.heap.size 3 i0 Tryz.underlying23 hI.out (.slice (some ⟨_, 0, none⟩) 0 0) 0 [] L rfl (own_emptyB (mA _ _) (by omega)) (some ⟨lg, lo + 1, none⟩) (p - 1) (cc - 1) HL0.out rfl (HI.out.keep (S := []) ((Keep.drew [] _).trans (Keep.alloc [] _ _)) (fun _ _ _ => by simp)) (fun e => by cases e) (by omega) (by first | (simp; done) | (simp; omega)) ?_
        intro v6 w6 hown6 hgrow6
        have hK6 : Keep [] w1 w6 := (show Keep [] w1 _ from (Keep.drew [] _).trans (Keep.alloc [] _ _)).grown hgrow6 (fun z e => by simp [Value.ownBlock] at e; omega)
        rw [List.nil_append] at hown6
        have HB6 := (show Hid (∀ k, v6.ownBlock = some k → (Value.slice (some ⟨lg, lo, none⟩) p cc).ownBlock = some k ∨ w1.heap.size ≤ k) from fun k e => .inr (own_block hown6 k e))
        have HM6 := (show Hid (IsMid w6 3 v6 L) from own_mid hown6)
        have HK6 := (show Hid (Keep [] w1 w6) from hK6)
        obtain ⟨l6, d6, hv6⟩ := HM6.out.form
        subst hv6
        clear hown6 hgrow6 hK6
        refine hK.out _ _ (fun _ => HC12.out _ HK6.out) ?_
        clear hK K
        have hHeld := HC12.out _ HK6.out
        try simp only [Act.put, List.setIfInBounds_toArray, List.set_cons_zero, List.set_cons_succ]
        refine wpAnyL_take (i := 15) (oi := ?oi15_116) (v := ?vv15_116) ?hoi15_116 (by kernel_rfl) (by kernel_rfl) (by kernel_rfl) (by kernel_rfl) ?hq15_116 (Or.inl ⟨?hw15_116, ?hy15_116⟩) (by assumption) ?rest15_116
        case hoi15_116 => simp only [List.getElem?_toArray, List.getElem?_cons_succ, List.getElem?_cons_zero]; rfl
        case hq15_116 => exact fun _ _ _ h => h
        case hw15_116 => rfl
        case hy15_116 =>
          intro w hSw
          (try dsimp only at hSw)
          go_simp
          try with_reducible rfl
        try simp only [Act.put, List.setIfInBounds_toArray, List.set_cons_zero, List.set_cons_succ]
        refine wpAnyL_ready (rs := [16]) (by kernel_rfl) (by simp) ?_
        refine AllReadyL.cons (o := ?oo16_117) ?ho16_117 (fun K hK => ?st16_117) AllReadyL.nil
        case ho16_117 => simp only [List.getElem?_toArray, List.getElem?_cons_succ, List.getElem?_cons_zero]; rfl
        case st16_117 =>
          obtain ⟨c16, c26⟩ := HC12.out _ HK6.out
          have f26 := HF2.out _ HK6.out
          go_simp
          refine hK.out _ _ (fun h => absurd rfl h) ?_
          clear hK K
          refine wpAnyL_done (by kernel_rfl) ?_ _
          have h5 := HM6.out
          have h6 := HB6.out
          have hX7 := (Has.gput HX.out.assoc HJ.out c2 h5 (HK6.out.mono (by simp)) h6).assoc'
          have HX7 := hid hX7
          clear hX7 h5 h6 HB6 HM6 HK6 c16 c26 f26 c1 c2 HX
          generalize w6.setCell _ _ = w7 at *
          obtain ⟨c0, _, _⟩ := robj_cells HX7.out.fst.fst.fst
          go_wp2_with fail
          refine (has_left (has_right_star HX7.out) (fun F hF => rput a 2 0 0 _ _ hF HP1.out inI_0)).mono ?_
          rintro e w8 ⟨rfl, hX8⟩
          have HX8 := hid (has_back_star hX8)
          have hx8 : w8.heap[bx]? = some (.cells #[.int .i64 0, .int .i64 0] 34 (0, 0)) := HX8.out.snd.fact (fun _ h => h.2)
          obtain ⟨f0, f1⟩ := two_free hx8
          obtain ⟨d0, d1⟩ := two_cells hx8
          clear hX8 HX7 c0
          go_wp2_with fail
          obtain ⟨z, hk6⟩ := two_put hx8 (.int .i64 a) (.int .i64 0)
          refine bodyPost_ret (results_cell_row rfl _ _ bx 34 #[.int .i64 a, .int .i64 0] (0, 0) _ rfl z Tryz.underlying34 rfl (by kernel_rfl)) rfl ?_
          exact ⟨rfl, Has.refs (va := some ⟨bb, 0, none⟩) (vc := vc) (by unfold refsR; rw [List.length_set]; exact (HX8.out.block hk6 z).fst) HQ.out⟩
end

end Go.Proofs.YtamcoejlghfleaaGreat
