/-
  Contracts of what the statement calls, one text behind the other (RefM, Ref, ListA, Ref2, RefSt, OwnA, Awake9, Made13).
-/
import Derived.Test.YtamcoejlghfleaaPart5
import Derived.Test.YtamcoejlghfleaaPart1
import Derived.Test.YtamcoejlghfleaaPart4
import Derived.Test.YtamcoejlghfleaaPart2
import Derived.OwnWalk

/-
  References: what each call answers and leaves, whatever is asked. Plain facts.
-/
namespace Go.Proofs.Ytamcoejlghfleaa
open Go.RowKit

/-- A word within a block, behind its head. -/
def Inner (kd : List PK) (p : Nat) : Prop := ∃ a m, findN kd a = some (a, m) ∧ a < p ∧ p < a + m
section
variable {kd : List PK} {ws : List Int} {ds : List (Int × List Int)} {p : Nat} {x : Int}
theorem Inner.ne (h : Inner kd p) (hw : WF kd) {q m : Nat} (hq : findN kd q = some (q, m)) : p ≠ q := by
  obtain ⟨a, n, h1, h2, h3⟩ := h
  rintro rfl
  obtain ⟨g1, g2, _⟩ := hw.found hq
  have := hw.apart h1 hq (x := p) (by omega) h3 g1 g2
  omega
theorem Inner.at' (h : Inner kd p) (hw : WF kd) {y k c l : Int} {q m : Nat} {f : Bool} : At kd (ws.set p x) y q m k c l f ↔ At kd ws y q m k c l f := by
  constructor
  · rintro ⟨e1, e2, e3⟩
    rw [set_get_other _ _ _ _ (h.ne hw e2)] at e3
    exact ⟨e1, e2, e3⟩
  · rintro ⟨e1, e2, e3⟩
    refine ⟨e1, e2, ?_⟩
    rw [set_get_other _ _ _ _ (h.ne hw e2)]
    exact e3
theorem Inner.head (h : Inner kd p) (hw : WF kd) {a k c l E : Int} {f : Bool} (hT : HeadT kd ws a k c l f E) : HeadT kd (ws.set p x) a k c l f E := by
  cases hT with
  | no hn => exact .no hn
  | yes b m k c l f hA => exact .yes b m k c l f ((h.at' hw).2 hA)
theorem Inner.fine (h : Inner kd p) (hf : Fine ws kd ds) (hx : inI x) : Fine (ws.set p x) kd ds := by
  obtain ⟨a, m, h1, h2, h3⟩ := h
  exact ⟨hf.wf, hf.ob.field hf.wf h1 h2 h3 x hx, hf.few, by rw [List.length_set]; exact hf.len⟩
theorem Inner.lt (h : Inner kd p) (hf : Fine ws kd ds) : p < ws.length := by
  obtain ⟨a, m, h1, h2, h3⟩ := h
  have := hf.wf.found h1
  have := hf.len
  omega
end

/-- A reference of class c lies at b. -/
def RefC (kd : List PK) (ws : List Int) (b : Nat) (c : Int) : Prop := ∃ m, At kd ws (b : Nat) b m 4 c 5 false
section
variable {kd : List PK} {ws : List Int} {ds : List (Int × List Int)} {p b b' : Nat} {x c c' : Int}
theorem RefC.refA (h : RefC kd ws b c) : RefA kd ws b := by obtain ⟨m, h⟩ := h; exact ⟨m, c, h⟩
theorem RefA.refC (h : RefA kd ws b) : ∃ c, RefC kd ws b c := by obtain ⟨m, c, h⟩ := h; exact ⟨c, m, h⟩
theorem RefC.headT (h : RefC kd ws b c) : HeadT kd ws b 4 c 5 false 0 := by obtain ⟨m, h⟩ := h; exact .yes b m 4 c 5 false h
theorem RefC.cls (h : RefC kd ws b c) : 1 ≤ c ∧ c ≤ 3 := by
  obtain ⟨m, h⟩ := h
  have h3 := h.2.2.1
  rw [mayH_4] at h3
  simp [inB] at h3
  exact h3
theorem refC_of_at {k l : Int} {m : Nat} {f : Bool} (h : At kd ws x b m k c l f) (hk : k = 4) : x = (b : Int) ∧ RefC kd ws b c ∧ l = 5 ∧ f = false := by
  subst hk
  obtain ⟨e, h1, h2⟩ := h
  have h3 := h2.1
  rw [mayH_4] at h3
  simp [inB] at h3
  obtain ⟨hf, _, hl⟩ := h3
  have hl5 : l = 5 := by omega
  subst hl5
  subst hf
  exact ⟨e, ⟨m, rfl, h1, h2⟩, rfl, rfl⟩
theorem RefC.room (h : RefC kd ws b c) (hf : Fine ws kd ds) : ∃ m, findN kd b = some (b, m) ∧ 6 ≤ m ∧ 64 ≤ b ∧ b + m ≤ ws.length ∧ ws.length ≤ 16384 := by
  obtain ⟨m, h⟩ := h
  have h1 := at_room hf h
  have h2 := h.facts hf.wf
  have h3 := hf.len
  exact ⟨m, h.2.1, by omega, h2.2.1, by omega, by omega⟩
theorem RefC.inner (h : RefC kd ws b c) (hf : Fine ws kd ds) (i : Nat) (hi : i < 5) : Inner kd (b + 1 + i) := by
  obtain ⟨m, h1, h2, _⟩ := h.room hf
  exact ⟨b, m, h1, by omega, by omega⟩
theorem RefC.inI (h : RefC kd ws b c) (hf : Fine ws kd ds) : inI (b : Int) := h.refA.inI hf
theorem RefC.place (h : RefC kd ws b c) (hf : Fine ws kd ds) (i : Nat) (hi : i < 5) : PlaceT kd ws b i (b + 1 + i) 0 := by
  obtain ⟨m, h⟩ := h
  have h1 := at_room hf h
  exact .yes b m i 4 c 5 false h rfl (by omega) h1
theorem RefC.put (h : RefC kd ws b c) (hf : Fine ws kd ds) (i : Nat) (hi : i < 5) (x : Int) : PutT kd ws b i x 0 (ws.set (b + 1 + i) x) := .yes (b + 1 + i) (h.place hf i hi) ((h.inner hf i hi).lt hf)
theorem RefC.field (h : RefC kd ws b c) (hf : Fine ws kd ds) (i : Nat) (hi : i < 5) : FieldT kd ws b i (ws[b + 1 + i]?.getD 0) 0 := .yes (b + 1 + i) (h.place hf i hi) ((h.inner hf i hi).lt hf)
theorem RefC.set (h : RefC kd ws b c) (hw : WF kd) (hp : Inner kd p) (x : Int) : RefC kd (ws.set p x) b c := by
  obtain ⟨m, h⟩ := h
  exact ⟨m, (hp.at' hw).2 h⟩
theorem RefC.unset (h : RefC kd (ws.set p x) b c) (hw : WF kd) (hp : Inner kd p) : RefC kd ws b c := by
  obtain ⟨m, h⟩ := h
  exact ⟨m, (hp.at' hw).1 h⟩
theorem RefA.set (h : RefA kd ws b) (hw : WF kd) (hp : Inner kd p) (x : Int) : RefA kd (ws.set p x) b := by
  obtain ⟨c, h⟩ := h.refC
  exact (h.set hw hp x).refA
/-- Fields of two references are two words. -/
theorem RefC.apart (h : RefC kd ws b c) (h' : RefC kd ws b' c') (hf : Fine ws kd ds) {i j : Nat} (hi : i < 5) (hj : j < 5) (e : b + 1 + i = b' + 1 + j) : b = b' ∧ i = j := by
  obtain ⟨m, h1, h2, _⟩ := h.room hf
  obtain ⟨m', h1', h2', _⟩ := h'.room hf
  have := hf.wf.apart h1 h1' (x := b + 1 + i) (by omega) (by omega) (by omega) (by omega)
  omega
end

/-- What there is at a: a reference of a class, or none. -/
inductive StrT (kd : List PK) (ws : List Int) (a : Int) : Int → Prop
  | no (k c l E : Int) (f : Bool) : HeadT kd ws a k c l f E → k ≠ 4 → StrT kd ws a 0
  | yes (b : Nat) (c : Int) : a = b → RefC kd ws b c → StrT kd ws a c
/-- Refer's errors but those of room. -/
inductive MayT (kd : List PK) (ws : List Int) (n : Nat) (s a q : Int) : Int → Prop
  | str : ¬ (1 ≤ s ∧ s ≤ 3) → MayT kd ws n s a q 1
  | none : 1 ≤ s → s ≤ 3 → ¬ (-1 ≤ q ∧ q < n) → MayT kd ws n s a q 2
  | ph : s = 3 → q = -1 → MayT kd ws n s a q 1
  | head (k c l E : Int) (f : Bool) : 1 ≤ s → s ≤ 3 → -1 ≤ q → q < n → ¬ (s = 3 ∧ q = -1) → HeadT kd ws a k c l f E → MayT kd ws n s a q E
/-- What a new reference's words are. -/
def madeW (ws : List Int) (b : Nat) (a q t u : Int) : List Int := (((ws.set (b + 1) a).set (b + 2) (q + 1)).set (b + 4) t).set (b + 5) u
/-- What Refer answers and leaves. -/
inductive ReferT (kd : List PK) (ws : List Int) (ds : List (Int × List Int)) (n : Nat) (S s a q t : Int) : Int → Int → List Int → List PK → Int → Prop
  | may (E : Int) : MayT kd ws n s a q E → E ≠ 0 → ReferT kd ws ds n S s a q t 0 E ws kd S
  | full (E : Int) : MayT kd ws n s a q 0 → MakeT kd ws ds 4 s 5 false 0 E ws kd → E ≠ 0 → ReferT kd ws ds n S s a q t 0 E ws kd S
  | yes (b : Nat) (ws1 : List Int) (kd' : List PK) : MayT kd ws n s a q 0 → MakeT kd ws ds 4 s 5 false b 0 ws1 kd' → RefC kd' ws1 b s → ReferT kd ws ds n S s a q t b 0 (madeW ws1 b a q t (S + 1)) kd' (S + 1)
/-- What Referent answers and leaves. -/
inductive ReadT (kd : List PK) (ws : List Int) (a t : Int) : Int → Int → List Int → Prop
  | kind : StrT kd ws a 0 → ReadT kd ws a t 0 5 ws
  | ph (b : Nat) : a = b → RefC kd ws b 3 → ReadT kd ws a t 0 0 ws
  | plain (b : Nat) (c N : Int) : a = b → RefC kd ws b c → c ≠ 3 → ws[b + 1]?.getD 0 = N → c ≠ 1 ∨ N = 0 → ReadT kd ws a t N 0 ws
  | soft (b : Nat) (N : Int) : a = b → RefC kd ws b 1 → ws[b + 1]?.getD 0 = N → N ≠ 0 → ReadT kd ws a t N 0 (ws.set (b + 4) t)
/-- Words, the first n of a list cleared. -/
def clrN (ws L : List Int) : Nat → List Int
  | 0 => ws
  | n + 1 => (clrN ws L n).set ((L[n]?.getD 0).toNat + 1) 0
/-- What Clear answers and leaves. -/
inductive ClearT (kd : List PK) (ws L : List Int) : Int → List Int → Prop
  | kind (j : Nat) : j < L.length → (∀ i, i < j → ∃ (b : Nat) (c : Int), L[i]?.getD 0 = b ∧ RefC kd ws b c) → StrT kd ws (L[j]?.getD 0) 0 → ClearT kd ws L 5 ws
  | yes : (∀ i, i < L.length → ∃ (b : Nat) (c : Int), L[i]?.getD 0 = b ∧ RefC kd ws b c) → ClearT kd ws L 0 (clrN ws L L.length)
/-- What Enqueue answers and leaves. -/
inductive EnqT (kd : List PK) (ws : List Int) (Ls : List (List Int)) (a : Int) : Bool → Int → List Int → List (List Int) → Prop
  | kind : StrT kd ws a 0 → EnqT kd ws Ls a false 5 ws Ls
  | no (b : Nat) (c : Int) : a = b → RefC kd ws b c → ws[b + 2]?.getD 0 < 1 → EnqT kd ws Ls a false 0 (ws.set (b + 1) 0) Ls
  | yes (b : Nat) (c x E : Int) (ws' : List Int) (Ls' : List (List Int)) : a = b → RefC kd ws b c → ws[b + 2]?.getD 0 = x → 1 ≤ x → PushT kd (ws.set (b + 1) 0) Ls (x - 1) b E ws' Ls' → RefC kd ws' b c → EnqT kd ws Ls a true 0 (ws'.set (b + 2) (-1)) Ls'

section
variable {kd kd' : List PK} {ws ws' : List Int} {ds : List (Int × List Int)} {a : Int}
theorem strT_ex (hf : Fine ws kd ds) (a : Int) : ∃ c, StrT kd ws a c := by
  rcases at_or hf.ob a with ⟨b, m, k, c, l, f, hA, _⟩ | hn
  · by_cases hk : k = 4
    · obtain ⟨e, h, _⟩ := refC_of_at hA hk
      exact ⟨c, .yes b c e h⟩
    · exact ⟨0, .no k c l 0 f (.yes b m k c l f hA) hk⟩
  · exact ⟨0, .no 0 0 0 2 false (.no hn) (by omega)⟩
theorem StrT.or {c : Int} (h : StrT kd ws a c) : StrT kd ws a 0 ∨ ∃ b : Nat, a = b ∧ RefC kd ws b c := by
  cases h with
  | no k c l E f h hk => exact .inl (.no k c l E f h hk)
  | yes b c e h => exact .inr ⟨b, e, h⟩
theorem mayT_ex (hf : Fine ws kd ds) (n : Nat) (s a q : Int) : ∃ E, MayT kd ws n s a q E := by
  by_cases h1 : 1 ≤ s ∧ s ≤ 3
  · by_cases h2 : -1 ≤ q ∧ q < n
    · by_cases h3 : s = 3 ∧ q = -1
      · exact ⟨_, .ph h3.1 h3.2⟩
      · obtain ⟨k, c, l, f, E, hT⟩ := headT_ex hf.ob a
        exact ⟨_, .head k c l E f h1.1 h1.2 h2.1 h2.2 h3 hT⟩
    · exact ⟨_, .none h1.1 h1.2 h2⟩
  · exact ⟨_, .str h1⟩
theorem MayT.zero {n : Nat} {s a q : Int} (h : MayT kd ws n s a q 0) : 1 ≤ s ∧ s ≤ 3 ∧ -1 ≤ q ∧ q < n := by
  cases h with
  | head k c l E f h1 h2 h3 h4 _ _ => exact ⟨h1, h2, h3, h4⟩
theorem mayH_ref {s : Int} (h1 : 1 ≤ s) (h2 : s ≤ 3) : mayH 4 s 5 false = true := by
  rw [mayH_4, inB_yes h1 h2, inB_yes (by omega) (by omega)]; rfl
/-- A reference that was made lies there; what there was lies there yet. -/
theorem MakeT.ref {s : Int} {b : Nat} (h : MakeT kd ws ds 4 s 5 false b 0 ws' kd') (hf : Fine ws kd ds) : RefC kd' ws' b s ∧ Fine ws' kd' ds ∧ kd'.length = kd.length ∧
    (∀ (p m : Nat) (k c l : Int) (f : Bool), At kd ws p p m k c l f → At kd' ws' p p m k c l f ∧ (p + m ≤ b ∨ b + 6 ≤ p) ∧ ∀ i, i < m → ws'[p + i]?.getD 0 = ws[p + i]?.getD 0) ∧
    (∀ i, i < 5 → ws'[b + 1 + i]?.getD 0 = 0) := by
  obtain ⟨f1, l1⟩ := h.fine hf
  have hl := hf.len
  generalize hB : (b : Int) = B at h
  cases h with
  | fits E _ _ _ h0 => exact absurd rfl h0
  | yes a m kd' hm _ hF hr hb =>
    obtain rfl : a = b := by omega
    obtain ⟨b', hb', h1, h2, h3, h4, h5, h6, h7⟩ := hr.spec hf.wf
    obtain rfl : m = b' := by rw [hb] at hb'; omega
    have hat := MakeT.at hf.wf hf.len hm hr hb
    have hR : RefC kd' ((fill0 ws a m).set a (putH 4 s 5 false)) a s := ⟨m, hat⟩
    have hm6 : 6 ≤ m := by
      obtain ⟨m', g1, g2, _⟩ := hR.room f1
      rw [hat.2.1] at g1
      cases g1
      exact g2
    refine ⟨hR, f1, l1, fun p n k c l f hA => ?_, fun i hi => ?_⟩
    · obtain ⟨g1, g2⟩ := hA.made (x := putH 4 s 5 false) hf.wf hf.len hr hb
      refine ⟨g1, by omega, fun i hi => ?_⟩
      rw [set_get_other _ _ _ _ (by omega), fill0_get _ _ _ _ (by omega), if_neg (by omega)]
    · rw [set_get_other _ _ _ _ (by omega), fill0_get _ _ _ _ (by omega), if_pos (by omega)]
theorem referT_ex (hf : Fine ws kd ds) (n : Nat) (S s a q t : Int) : ∃ N E ws' kd' S', ReferT kd ws ds n S s a q t N E ws' kd' S' := by
  obtain ⟨E, hM⟩ := mayT_ex hf n s a q
  by_cases hE : E = 0
  · subst hE
    obtain ⟨h1, h2, _⟩ := hM.zero
    obtain ⟨N, E, ws', kd', hT⟩ := makeT_ex ws ds 4 s 5 false hf.wf
    have hT' := hT
    cases hT with
    | arg h => rw [mayH_ref h1 h2] at h; cases h
    | fits E _ _ h hE => exact ⟨_, _, _, _, _, .full E hM hT' hE⟩
    | full _ _ _ _ => exact ⟨_, _, _, _, _, .full 3 hM hT' (by omega)⟩
    | yes b m kd' _ _ _ _ _ => exact ⟨_, _, _, _, _, .yes b _ kd' hM hT' (hT'.ref hf).1⟩
  · exact ⟨_, _, _, _, _, .may E hM hE⟩
theorem readT_ex (hf : Fine ws kd ds) (a t : Int) : ∃ N E ws', ReadT kd ws a t N E ws' := by
  obtain ⟨c, hS⟩ := strT_ex hf a
  rcases hS.or with h | ⟨b, e, h⟩
  · exact ⟨_, _, _, .kind h⟩
  · by_cases h3 : c = 3
    · subst h3; exact ⟨_, _, _, .ph b e h⟩
    · by_cases h1 : c = 1 ∧ ws[b + 1]?.getD 0 ≠ 0
      · obtain ⟨rfl, h1⟩ := h1
        exact ⟨_, _, _, .soft b _ e h rfl h1⟩
      · exact ⟨_, _, _, .plain b c _ e h h3 rfl (by omega)⟩
theorem clearT_ex (hf : Fine ws kd ds) (L : List Int) : ∃ E ws', ClearT kd ws L E ws' := by
  have key : ∀ n, n ≤ L.length → (∃ j, j < L.length ∧ (∀ i, i < j → ∃ (b : Nat) (c : Int), L[i]?.getD 0 = b ∧ RefC kd ws b c) ∧ StrT kd ws (L[j]?.getD 0) 0) ∨ ∀ i, i < n → ∃ (b : Nat) (c : Int), L[i]?.getD 0 = b ∧ RefC kd ws b c := by
    intro n
    induction n with
    | zero => intro _; exact .inr (fun i hi => by omega)
    | succ n ih =>
      intro hn
      rcases ih (by omega) with h | h
      · exact .inl h
      · obtain ⟨c, hS⟩ := strT_ex hf (L[n]?.getD 0)
        rcases hS.or with h0 | ⟨b, e, h1⟩
        · exact .inl ⟨n, by omega, h, h0⟩
        · refine .inr (fun i hi => ?_)
          rcases Nat.lt_or_ge i n with g | g
          · exact h i g
          · obtain rfl : i = n := by omega
            exact ⟨b, c, e, h1⟩
  rcases key L.length (Nat.le_refl _) with ⟨j, h1, h2, h3⟩ | h
  · exact ⟨_, _, .kind j h1 h2 h3⟩
  · exact ⟨_, _, .yes h⟩
end

section
variable {kd kd' : List PK} {ws ws' L : List Int} {ds : List (Int × List Int)} {a : Int}
theorem Fine.inI (hf : Fine ws kd ds) (i : Nat) : inI (ws[i]?.getD 0) := hf.ob.bd i
/-- A new reference's words are put one by one. -/
theorem RefC.madeW {b : Nat} {c a q t u : Int} (h : RefC kd ws b c) (hf : Fine ws kd ds) (ha : Go.Proofs.Ytamcoejlghfleaa.inI a) (hq : Go.Proofs.Ytamcoejlghfleaa.inI (q + 1)) (ht : Go.Proofs.Ytamcoejlghfleaa.inI t) (hu : Go.Proofs.Ytamcoejlghfleaa.inI u) :
    PutT kd ws b 0 a 0 (ws.set (b + 1) a) ∧ PutT kd (ws.set (b + 1) a) b 1 (q + 1) 0 ((ws.set (b + 1) a).set (b + 2) (q + 1)) ∧ PutT kd ((ws.set (b + 1) a).set (b + 2) (q + 1)) b 3 t 0 (((ws.set (b + 1) a).set (b + 2) (q + 1)).set (b + 4) t) ∧
    PutT kd (((ws.set (b + 1) a).set (b + 2) (q + 1)).set (b + 4) t) b 4 u 0 (madeW ws b a q t u) ∧ Fine (madeW ws b a q t u) kd ds ∧ RefC kd (madeW ws b a q t u) b c := by
  have p0 := h.inner hf 0 (by omega)
  have p1 := h.inner hf 1 (by omega)
  have p3 := h.inner hf 3 (by omega)
  have p4 := h.inner hf 4 (by omega)
  have f1 := p0.fine hf ha
  have r1 := h.set hf.wf p0 a
  have f2 := p1.fine f1 hq
  have r2 := r1.set hf.wf p1 (q + 1)
  have f3 := p3.fine f2 ht
  have r3 := r2.set hf.wf p3 t
  exact ⟨h.put hf 0 (by omega) a, r1.put f1 1 (by omega) (q + 1), r2.put f2 3 (by omega) t, r3.put f3 4 (by omega) u, p4.fine f3 hu, r3.set hf.wf p4 u⟩
/-- Clearing, one by one. -/
theorem clrN_step (hf : Fine ws kd ds) (h : ∀ i, i < L.length → ∃ (b : Nat) (c : Int), L[i]?.getD 0 = b ∧ RefC kd ws b c) : ∀ n, n ≤ L.length → Fine (clrN ws L n) kd ds ∧ (∀ (b : Nat) (c : Int), RefC kd ws b c → RefC kd (clrN ws L n) b c) ∧ ∀ (q m : Nat) (y k c l : Int) (f : Bool), At kd ws y q m k c l f → At kd (clrN ws L n) y q m k c l f := by
  intro n
  induction n with
  | zero => intro _; exact ⟨hf, fun b c h => h, fun q m y k c l f h => h⟩
  | succ n ih =>
    intro hn
    obtain ⟨g1, g2, g3⟩ := ih (by omega)
    obtain ⟨b, c, e, hR⟩ := h n (by omega)
    have p0 := hR.inner hf 0 (by omega)
    have eb : (L[n]?.getD 0).toNat + 1 = b + 1 + 0 := by rw [e]; simp
    show Fine ((clrN ws L n).set ((L[n]?.getD 0).toNat + 1) 0) kd ds ∧ (∀ (b : Nat) (c : Int), RefC kd ws b c → RefC kd ((clrN ws L n).set ((L[n]?.getD 0).toNat + 1) 0) b c) ∧ ∀ (q m : Nat) (y k c l : Int) (f : Bool), At kd ws y q m k c l f → At kd ((clrN ws L n).set ((L[n]?.getD 0).toNat + 1) 0) y q m k c l f
    rw [eb]
    exact ⟨p0.fine g1 inI_0, fun b c h => (g2 b c h).set hf.wf p0 0, fun q m y k c l f h => (p0.at' hf.wf).2 (g3 q m y k c l f h)⟩
theorem clrN_put (hf : Fine ws kd ds) (h : ∀ i, i < L.length → ∃ (b : Nat) (c : Int), L[i]?.getD 0 = b ∧ RefC kd ws b c) (n : Nat) (hn : n < L.length) : PutT kd (clrN ws L n) (L[n]?.getD 0) 0 0 0 (clrN ws L (n + 1)) := by
  obtain ⟨g1, g2, _⟩ := clrN_step hf h n (by omega)
  obtain ⟨b, c, e, hR⟩ := h n hn
  show PutT kd (clrN ws L n) (L[n]?.getD 0) 0 0 0 ((clrN ws L n).set ((L[n]?.getD 0).toNat + 1) 0)
  rw [e]
  exact (g2 b c hR).put g1 0 (by omega) 0
/-- What clearing leaves of a word. -/
theorem clrN_get {p : Nat} (hp : ∀ i, i < L.length → (L[i]?.getD 0).toNat + 1 ≠ p) : ∀ n, n ≤ L.length → (clrN ws L n)[p]?.getD 0 = ws[p]?.getD 0 := by
  intro n
  induction n with
  | zero => intro _; rfl
  | succ n ih =>
    intro hn
    show ((clrN ws L n).set ((L[n]?.getD 0).toNat + 1) 0)[p]?.getD 0 = _
    rw [set_get_other _ _ _ _ (hp n (by omega)), ih (by omega)]
theorem ClearT.fine {E : Int} (h : ClearT kd ws L E ws') (hf : Fine ws kd ds) : Fine ws' kd ds := by
  cases h with
  | kind j _ _ _ => exact hf
  | yes h => exact (clrN_step hf h _ (Nat.le_refl _)).1
theorem ReadT.fine {t N E : Int} (h : ReadT kd ws a t N E ws') (hf : Fine ws kd ds) (ht : Go.Proofs.Ytamcoejlghfleaa.inI t) : Fine ws' kd ds := by
  cases h with
  | kind _ => exact hf
  | ph b _ _ => exact hf
  | plain b c N _ _ _ _ _ => exact hf
  | soft b N e h _ _ => exact (h.inner hf 3 (by omega)).fine hf ht
end

end Go.Proofs.Ytamcoejlghfleaa

/-
  Package ref in memory: the block of Refs beside its queues; what heap, strength, may, New, Serial and Referent answer and leave.
-/
namespace Go.Proofs.Ytamcoejlghfleaa
open Go.RowKit

def pObj (qb : Nat) (S : Int) : Obj := .cells #[.pointer (some ⟨qb, 0, none⟩), .int .i64 S] 36 (0, 0)
/-- References of the program: their block, their queues, the heap of these. -/
def prefA (pb qb hb : Nat) (S : Int) (ws : List Int) (kd : List PK) (ds : List (Int × List Int)) (Ls : List (List Int)) : Asn := (blockA pb (pObj qb S)).star (queueA qb hb ws kd ds Ls)

section
variable {w0 w : World} {F0 : List Nat} {pb qb hb : Nat} {S : Int} {ws : List Int} {kd : List PK} {ds : List (Int × List Int)} {Ls : List (List Int)}
theorem Has.pcells (h : Has w0 F0 (prefA pb qb hb S ws kd ds Ls) w) : w.cell? ⟨pb, 0, none⟩ = some (.pointer (some ⟨qb, 0, none⟩)) ∧ w.cell? ⟨pb, 1, none⟩ = some (.int .i64 S) ∧ w.frozen? ⟨pb, 1, none⟩ = false ∧ w.cell? ⟨qb, 0, none⟩ = some (.pointer (some ⟨hb, 0, none⟩)) := by
  have h1 : w.heap[pb]? = some (pObj qb S) := h.fst.fact (fun _ h => h.2)
  obtain ⟨va, vc, hr⟩ := h.snd.qraw
  obtain ⟨c0, _⟩ := hr.qcells
  unfold pObj at h1
  exact ⟨by simp [World.cell?, h1], by simp [World.cell?, h1], by simp [World.frozen?, h1], c0⟩
theorem Has.pheap (h : Has w0 F0 (prefA pb qb hb S ws kd ds Ls) w) : Has w0 F0 (heapA hb ws kd ds) w := h.snd.qheap
theorem Has.pfine (h : Has w0 F0 (prefA pb qb hb S ws kd ds Ls) w) : Fine ws kd ds := h.pheap.fine
/-- A call on the heap alone. -/
theorem has_pheap {P : Program} {f : FuncId} {args : Array Value} {ws' : List Int} {kd' : List PK} {ds' : List (Int × List Int)} {Q : Ending → World → Prop} (h : Has w0 F0 (prefA pb qb hb S ws kd ds Ls) w) (hc : ∀ F, Has w F (heapA hb ws kd ds) w → Calls P f args w fun e w' => Q e w' ∧ Has w F (heapA hb ws' kd' ds') w') :
    Calls P f args w fun e w' => Q e w' ∧ Has w0 F0 (prefA pb qb hb S ws' kd' ds' Ls) w' := has_right h (fun _ h => has_qheap h hc)
/-- A call on the queues alone. -/
theorem has_pqueue {P : Program} {f : FuncId} {args : Array Value} {ws' : List Int} {kd' : List PK} {ds' : List (Int × List Int)} {Ls' : List (List Int)} {Q : Ending → World → Prop} (h : Has w0 F0 (prefA pb qb hb S ws kd ds Ls) w) (hc : ∀ F, Has w F (queueA qb hb ws kd ds Ls) w → Calls P f args w fun e w' => Q e w' ∧ Has w F (queueA qb hb ws' kd' ds' Ls') w') :
    Calls P f args w fun e w' => Q e w' ∧ Has w0 F0 (prefA pb qb hb S ws' kd' ds' Ls') w' := has_right h hc

set_option maxHeartbeats 800000 in
theorem pheap (w : World) (c0 : w.cell? ⟨pb, 0, none⟩ = some (.pointer (some ⟨qb, 0, none⟩))) (q0 : w.cell? ⟨qb, 0, none⟩ = some (.pointer (some ⟨hb, 0, none⟩))) :
    Calls Try.prog 44 #[.pointer (some ⟨pb, 0, none⟩)] w fun e w' => e = .returned (.pointer (some ⟨hb, 0, none⟩)) ∧ w = w' := by
  go_enter Try.func44, Try.ntmps44
  go_wp2_with fail
  go_ret
  exact ⟨rfl, rfl⟩
set_option maxHeartbeats 800000 in
theorem pheap_nil (w : World) :
    Calls Try.prog 44 #[.pointer none] w fun e w' => e = .returned (.pointer none) ∧ w = w' := by
  go_enter Try.func44, Try.ntmps44
  go_wp2_with fail
  go_ret
  exact ⟨rfl, rfl⟩

set_option maxHeartbeats 1600000 in
theorem pstr (a c : Int) (w : World) (h : Has w0 F0 (prefA pb qb hb S ws kd ds Ls) w) (hT : StrT kd ws a c) :
    Calls Try.prog 30 #[.pointer (some ⟨pb, 0, none⟩), .int .i64 a] w fun e w' => e = .returned (.int .i64 c) ∧ Keep [] w w' := by
  obtain ⟨c0, _, _, q0⟩ := h.pcells
  have HC := hid c0
  have HC1 := hid q0
  have HH := hid h.pheap
  clear h c0 q0
  cases hT with
  | no k c l E f hH hk =>
    have HT := hid hH
    have hd : (k == 4) = false := by simpa using hk
    clear hH hk
    go_enter Try.func30, Try.ntmps30
    go_wp2_with (first | (go_at_call 44; refine (pheap _ HC.out HC1.out).mono ?_; rintro e w1 ⟨rfl, rfl⟩) | (go_at_call 19; refine (ohead a k c l E f _ HH.out HT.out).mono ?_; rintro e w1 ⟨rfl, hK1⟩; have hy := heap_alloc_new w1 (.cells #[.int .i64 k, .int .i64 c, .int .i64 l, .bool f] 48); obtain ⟨g0, g1, g2, g3⟩ := four_cells hy))
    go_ret
    exact ⟨rfl, hK1.trans (Keep.alloc [] _ _)⟩
  | yes b c e hR =>
    subst e
    have HT := hid hR.headT
    clear hR
    go_enter Try.func30, Try.ntmps30
    go_wp2_with (first | (go_at_call 44; refine (pheap _ HC.out HC1.out).mono ?_; rintro e w1 ⟨rfl, rfl⟩) | (go_at_call 19; refine (ohead b 4 c 5 0 false _ HH.out HT.out).mono ?_; rintro e w1 ⟨rfl, hK1⟩; have hy := heap_alloc_new w1 (.cells #[.int .i64 4, .int .i64 c, .int .i64 5, .bool false] 48); obtain ⟨g0, g1, g2, g3⟩ := four_cells hy))
    go_ret
    exact ⟨rfl, hK1.trans (Keep.alloc [] _ _)⟩
set_option maxHeartbeats 1600000 in
theorem pstr_nil (a : Int) (w : World) :
    Calls Try.prog 30 #[.pointer none, .int .i64 a] w fun e w' => e = .returned (.int .i64 0) ∧ Keep [] w w' := by
  go_enter Try.func30, Try.ntmps30
  go_wp2_with (first | (go_at_call 44; refine (pheap_nil _).mono ?_; rintro e w1 ⟨rfl, rfl⟩) | (go_at_call 19; refine (ohead_nil a _).mono ?_; rintro e w1 ⟨rfl, hK1⟩; have hy := heap_alloc_new w1 (.cells #[.int .i64 0, .int .i64 0, .int .i64 0, .bool false] 48); obtain ⟨g0, g1, g2, g3⟩ := four_cells hy))
  go_ret
  exact ⟨rfl, hK1.trans (Keep.alloc [] _ _)⟩

set_option maxHeartbeats 3200000 in
theorem pmay (n : Nat) (s a q E : Int) (w : World) (h : Has w0 F0 (prefA pb qb hb S ws kd ds Ls) w) (hn : Ls.length = n) (hT : MayT kd ws n s a q E) :
    Calls Try.prog 25 #[.pointer (some ⟨pb, 0, none⟩), .int .i64 s, .int .i64 a, .int .i64 q] w fun e w' => e = .returned (.int .i64 E) ∧ Keep [] w w' := by
  obtain ⟨c0, _, _, q0⟩ := h.pcells
  have HC := hid c0
  have HC1 := hid q0
  have HH := hid h.pheap
  have HQ := hid (show ∀ w', Keep [] w w' → Calls Try.prog 43 #[.pointer (some ⟨qb, 0, none⟩)] w' (fun e w'' => e = .returned (.int .i64 n) ∧ w' = w'') from fun w' K => by rw [← hn]; exact qqueues w' (h.snd.keep0 K))
  clear h q0 hn
  cases hT with
  | str hs =>
    by_cases h1 : s < 1
    · go_enter Try.func25, Try.ntmps25
      go_wp2_with fail
      go_ret
      exact ⟨rfl, Keep.refl _ _⟩
    · have h2 : 3 < s := by omega
      clear hs
      go_enter Try.func25, Try.ntmps25
      go_wp2_with fail
      go_ret
      exact ⟨rfl, Keep.refl _ _⟩
  | none h1 h2 h3 =>
    have d1 : decide (s < 1) = false := decide_eq_false (by omega)
    have d2 : decide (3 < s) = false := decide_eq_false (by omega)
    by_cases h4 : q < -1
    · clear h3
      go_enter Try.func25, Try.ntmps25
      go_wp2_with fail
      go_ret
      exact ⟨rfl, Keep.refl _ _⟩
    · have d3 : decide (q < -1) = false := decide_eq_false h4
      have d4 : decide ((n : Int) ≤ q) = true := decide_eq_true (by omega)
      clear h3
      go_enter Try.func25, Try.ntmps25
      go_wp2_with (first | (go_at_call 43; refine (HQ.out _ (Keep.refl _ _)).mono ?_; rintro e w1 ⟨rfl, rfl⟩))
      go_ret
      exact ⟨rfl, Keep.refl _ _⟩
  | ph h1 h2 =>
    subst h1
    subst h2
    have d4 : decide ((n : Int) ≤ -1) = false := decide_eq_false (by omega)
    go_enter Try.func25, Try.ntmps25
    go_wp2_with (first | (go_at_call 43; refine (HQ.out _ (Keep.refl _ _)).mono ?_; rintro e w1 ⟨rfl, rfl⟩))
    go_ret
    exact ⟨rfl, Keep.refl _ _⟩
  | head k c l E f h1 h2 h3 h4 h5 hH =>
    have HT := hid hH
    have d1 : decide (s < 1) = false := decide_eq_false (by omega)
    have d2 : decide (3 < s) = false := decide_eq_false (by omega)
    have d3 : decide (q < -1) = false := decide_eq_false (by omega)
    have d4 : decide ((n : Int) ≤ q) = false := decide_eq_false (by omega)
    by_cases hs : s = 3
    · have e1 : (s == 3) = true := by simpa using hs
      have e2 : (q == -1) = false := by rw [beq_eq_false_iff_ne]; exact fun e => h5 ⟨hs, e⟩
      clear hH hs h5
      go_enter Try.func25, Try.ntmps25
      go_wp2_with (first | (go_at_call 43; refine (HQ.out _ (Keep.refl _ _)).mono ?_; rintro e w1 ⟨rfl, rfl⟩) | (go_at_call 44; refine (pheap _ HC.out HC1.out).mono ?_; rintro e w1 ⟨rfl, rfl⟩) | (go_at_call 19; refine (ohead a k c l E f _ HH.out HT.out).mono ?_; rintro e w1 ⟨rfl, hK1⟩))
      go_ret
      exact ⟨rfl, hK1.trans (Keep.alloc [] _ _)⟩
    · have e1 : (s == 3) = false := by rw [beq_eq_false_iff_ne]; exact hs
      clear hH hs h5
      go_enter Try.func25, Try.ntmps25
      go_wp2_with (first | (go_at_call 43; refine (HQ.out _ (Keep.refl _ _)).mono ?_; rintro e w1 ⟨rfl, rfl⟩) | (go_at_call 44; refine (pheap _ HC.out HC1.out).mono ?_; rintro e w1 ⟨rfl, rfl⟩) | (go_at_call 19; refine (ohead a k c l E f _ HH.out HT.out).mono ?_; rintro e w1 ⟨rfl, hK1⟩))
      go_ret
      exact ⟨rfl, hK1.trans (Keep.alloc [] _ _)⟩

set_option maxHeartbeats 800000 in
theorem pserial (w : World) (h : Has w0 F0 (prefA pb qb hb S ws kd ds Ls) w) :
    Calls Try.prog 17 #[.pointer (some ⟨pb, 0, none⟩)] w fun e w' => e = .returned (.int .i64 S) ∧ w = w' := by
  obtain ⟨_, c1, _, _⟩ := h.pcells
  clear h
  go_enter Try.func17, Try.ntmps17
  go_wp2_with fail
  go_ret
  exact ⟨rfl, rfl⟩
set_option maxHeartbeats 800000 in
theorem pserial_nil (w : World) :
    Calls Try.prog 17 #[.pointer none] w fun e w' => e = .returned (.int .i64 0) ∧ w = w' := by
  go_enter Try.func17, Try.ntmps17
  go_wp2_with fail
  go_ret
  exact ⟨rfl, rfl⟩
set_option maxHeartbeats 1600000 in
theorem pnew (w : World) (h : Has w0 F0 (heapA hb ws kd ds) w) :
    Calls Try.prog 18 #[.pointer (some ⟨hb, 0, none⟩)] w fun e w' => ∃ pb qb, e = .returned (.pointer (some ⟨pb, 0, none⟩)) ∧ Has w0 F0 (prefA pb qb hb 0 ws kd ds []) w' := by
  have HH := hid h
  clear h
  go_enter Try.func18, Try.ntmps18
  go_wp2_with (first | (go_at_call 34; refine (qnew _ HH.out).mono ?_; rintro e w1 ⟨qb, rfl, hQ1⟩))
  go_ret
  exact ⟨_, qb, rfl, (hQ1.newB (pObj qb 0)).comm⟩
set_option maxHeartbeats 800000 in
theorem pnew_nil (w : World) :
    Calls Try.prog 18 #[.pointer none] w fun e w' => e = .returned (.pointer none) ∧ w = w' := by
  go_enter Try.func18, Try.ntmps18
  go_wp2_with fail
  go_ret
  exact ⟨rfl, rfl⟩

set_option maxHeartbeats 3200000 in
theorem pread (a t N E : Int) (ws' : List Int) (w : World) (h : Has w0 F0 (prefA pb qb hb S ws kd ds Ls) w) (hT : ReadT kd ws a t N E ws') (ht : inI t) :
    Calls Try.prog 13 #[.pointer (some ⟨pb, 0, none⟩), .int .i64 a, .int .i64 t] w fun e w' => e = .returned (.tuple #[.int .i64 N, .int .i64 E]) ∧ Has w0 F0 (prefA pb qb hb S ws' kd ds Ls) w' := by
  have HX := hid h
  have hf := h.pfine
  cases hT with
  | kind hS =>
    have HS := hid hS
    clear h hS hf
    go_enter Try.func13, Try.ntmps13
    go_wp2_with (first | (go_at_call 30; refine (pstr a 0 _ HX.out HS.out).mono ?_; rintro e w1 ⟨rfl, hK1⟩))
    go_ret2
    exact ⟨rfl, HX.out.keep0 hK1⟩
  | ph b e hR =>
    have HS := (show Hid (StrT kd ws a 3) from .yes b 3 e hR)
    clear h hR hf e
    go_enter Try.func13, Try.ntmps13
    go_wp2_with (first | (go_at_call 30; refine (pstr a 3 _ HX.out HS.out).mono ?_; rintro e w1 ⟨rfl, hK1⟩))
    go_ret2
    exact ⟨rfl, HX.out.keep0 hK1⟩
  | plain b c N e hR hc3 hN hor =>
    subst e
    have HS := (show Hid (StrT kd ws (b : Int) c) from .yes b c rfl hR)
    have HF := (show Hid (FieldT kd ws (b : Int) 0 N 0) from by
      have := hR.field hf 0 (by omega)
      rw [show b + 1 + 0 = b + 1 from rfl, hN] at this
      exact this)
    have hc := hR.cls
    have e0 : (c == 0) = false := by rw [beq_eq_false_iff_ne]; omega
    have e3 : (c == 3) = false := by rw [beq_eq_false_iff_ne]; exact hc3
    clear h hf hR hN hc hc3
    by_cases hc1 : c = 1
    · have e1 : (c == 1) = true := by simpa using hc1
      have hN0 : N = 0 := by rcases hor with h | h; exact absurd hc1 h; exact h
      subst hN0
      clear hor hc1
      go_enter Try.func13, Try.ntmps13
      go_wp2_with (first | (go_at_call 30; refine (pstr b c _ HX.out HS.out).mono ?_; rintro e w1 ⟨rfl, hK1⟩; obtain ⟨c0, _, _, q0⟩ := (HX.out.keep0 hK1).pcells) | (go_at_call 16; refine (ofield b 0 0 0 _ (HX.out.keep0 hK1).pheap HF.out).mono ?_; rintro e w2 ⟨rfl, hK2⟩))
      go_ret2
      exact ⟨rfl, (HX.out.keep0 hK1).keep0 hK2⟩
    · have e1 : (c == 1) = false := by rw [beq_eq_false_iff_ne]; exact hc1
      clear hor hc1
      go_enter Try.func13, Try.ntmps13
      go_wp2_with (first | (go_at_call 30; refine (pstr b c _ HX.out HS.out).mono ?_; rintro e w1 ⟨rfl, hK1⟩; obtain ⟨c0, _, _, q0⟩ := (HX.out.keep0 hK1).pcells) | (go_at_call 16; refine (ofield b 0 N 0 _ (HX.out.keep0 hK1).pheap HF.out).mono ?_; rintro e w2 ⟨rfl, hK2⟩))
      go_ret2
      exact ⟨rfl, (HX.out.keep0 hK1).keep0 hK2⟩
  | soft b N e hR hN hN0 =>
    subst e
    have HS := (show Hid (StrT kd ws (b : Int) 1) from .yes b 1 rfl hR)
    have HF := (show Hid (FieldT kd ws (b : Int) 0 N 0) from by
      have := hR.field hf 0 (by omega)
      rw [show b + 1 + 0 = b + 1 from rfl, hN] at this
      exact this)
    have HP := (show Hid (PutT kd ws (b : Int) 3 t 0 (ws.set (b + 4) t)) from hR.put hf 3 (by omega) t)
    have en : (N != 0) = true := by simpa using hN0
    have en' : (N == 0) = false := by simpa using hN0
    clear h hf hR hN hN0
    go_enter Try.func13, Try.ntmps13
    go_wp2_with (first | (go_at_call 30; refine (pstr b 1 _ HX.out HS.out).mono ?_; rintro e w1 ⟨rfl, hK1⟩; obtain ⟨c0, _, _, q0⟩ := (HX.out.keep0 hK1).pcells) | (go_at_call 16; refine (ofield b 0 N 0 _ (HX.out.keep0 hK1).pheap HF.out).mono ?_; rintro e w2 ⟨rfl, hK2⟩; have HX2 := hid ((HX.out.keep0 hK1).keep0 hK2); obtain ⟨c02, _, _, q02⟩ := HX2.out.pcells) | (go_at_call 26; refine (has_pheap HX2.out (fun F hF => oput b 3 t 0 _ _ hF HP.out ht)).mono ?_; rintro e w3 ⟨rfl, hX3⟩))
    go_ret2
    exact ⟨rfl, hX3⟩
set_option maxHeartbeats 1600000 in
theorem pread_nil (a t : Int) (w : World) :
    Calls Try.prog 13 #[.pointer none, .int .i64 a, .int .i64 t] w fun e w' => e = .returned (.tuple #[.int .i64 0, .int .i64 5]) ∧ Keep [] w w' := by
  go_enter Try.func13, Try.ntmps13
  go_wp2_with (first | (go_at_call 30; refine (pstr_nil a _).mono ?_; rintro e w1 ⟨rfl, hK1⟩))
  go_ret2
  exact ⟨rfl, hK1⟩
end

end Go.Proofs.Ytamcoejlghfleaa

/-
  A list of integers that nothing turns, as a part of memory beside others.
-/
namespace Go.Proofs.Ytamcoejlghfleaa
open Go.RowKit

def listA (la : Option Addr) (L : List Int) : Asn where
  at' w F := F = la.toList.map (·.block) ∧ IntsAt w la L ∧ ∀ a, la = some a → a.block < w.heap.size
  keep := fun h K hS => ⟨h.1, h.2.1.keep K (fun _ a e => hS _ (by rw [h.1, e]; simp)), fun a e => Nat.lt_of_lt_of_le (h.2.2 a e) K.size⟩
  lt := fun h k hk => by
    rw [h.1] at hk
    simp at hk
    obtain ⟨a, e, rfl⟩ := hk
    exact h.2.2 a e
theorem Has.list {w0 w : World} {F0 : List Nat} {la : Option Addr} {L : List Int} (h : Has w0 F0 (listA la L) w) : IntsAt w la L := h.fact (fun _ h => h.2.1)
/-- A list that was made since w beside what there is. -/
theorem Has.listed {w0 w w' : World} {F0 : List Nat} {A : Asn} {v : Value} {n : Nat} {L : List Int} {t : TypeId} (h : Has w0 F0 A w) (K : Keep [] w w') (ho : w'.ownsRow w.heap.size t 1 v n (ints L)) (hb : ∀ i : Nat, -9223372036854775808 ≤ L[i]?.getD 0 ∧ L[i]?.getD 0 ≤ 9223372036854775807) :
    ∃ la lc, v = .slice la L.length lc ∧ (la = none → lc = 0) ∧ Has w0 F0 (A.star (listA la L)) w' := by
  rcases own_ints ho hb with ⟨rfl, rfl, _⟩ | ⟨g, cap, rfl, _, h2, h3, h4⟩
  · exact ⟨none, 0, rfl, fun _ => rfl, h.more K (G := []) ⟨rfl, IntsAt.nil _ _, by simp⟩ (by simp)⟩
  · exact ⟨some ⟨g, 0, none⟩, cap, rfl, by simp, h.more K (G := [g]) ⟨rfl, h4, fun a e => by cases e; exact h3⟩ (by simpa using h2)⟩

end Go.Proofs.Ytamcoejlghfleaa

/-
  Package ref: what Refer, Clear and Enqueue answer and leave.
-/
namespace Go.Proofs.Ytamcoejlghfleaa
open Go.RowKit

section
variable {w0 w : World} {F0 : List Nat} {pb qb hb : Nat} {S : Int} {ws : List Int} {kd : List PK} {ds : List (Int × List Int)} {Ls : List (List Int)}
/-- How many were made is one more. -/
theorem Has.pmade (h : Has w0 F0 (prefA pb qb hb S ws kd ds Ls) w) (T : Int) : Has w0 F0 (prefA pb qb hb T ws kd ds Ls) (w.setCell ⟨pb, 1, none⟩ (.int .i64 T)) := by
  have hb4 : w.heap[pb]? = some (pObj qb S) := h.fst.fact (fun _ h => h.2)
  have hb5 := heap_setCell_same w pb 1 _ _ (.int .i64 T) hb4
  exact h.setB (o' := pObj qb T) (Keep.setCell (S := [pb]) w (a := ⟨pb, 1, none⟩) (.int .i64 T) (by simp)) (by simpa [pObj] using hb5)

set_option maxRecDepth 100000 in
set_option maxHeartbeats 3200000 in
theorem prefer (n : Nat) (s a q t N E S' : Int) (ws' : List Int) (kd' : List PK) (w : World) (h : Has w0 F0 (prefA pb qb hb S ws kd ds Ls) w) (hn : Ls.length = n) (hT : ReferT kd ws ds n S s a q t N E ws' kd' S') (ha : inI a) (ht : inI t) (hS : 0 ≤ S ∧ S < 1000000) :
    Calls Try.prog 9 #[.pointer (some ⟨pb, 0, none⟩), .int .i64 s, .int .i64 a, .int .i64 q, .int .i64 t] w fun e w' => e = .returned (.tuple #[.int .i64 N, .int .i64 E]) ∧ Has w0 F0 (prefA pb qb hb S' ws' kd' ds Ls) w' := by
  have HX := hid h
  have HN := hid hn
  cases hT with
  | may E hM hE =>
    have HM := hid hM
    have hd : (E != 0) = true := by simpa using hE
    have hd' : (E == 0) = false := by simpa using hE
    clear h hn hM hE
    go_enter Try.func9, Try.ntmps9
    go_wp2_with (first | (go_at_call 25; refine (pmay n s a q E _ HX.out HN.out HM.out).mono ?_; rintro e w1 ⟨rfl, hK1⟩))
    go_ret2
    exact ⟨rfl, HX.out.keep0 hK1⟩
  | full E hM hMk hE =>
    have HM := hid hM
    have HK := hid hMk
    have hd : (E != 0) = true := by simpa using hE
    have hd' : (E == 0) = false := by simpa using hE
    clear h hn hM hE hMk
    go_enter Try.func9, Try.ntmps9
    go_wp2_with (first | (go_at_call 25; refine (pmay n s a q 0 _ HX.out HN.out HM.out).mono ?_; rintro e w1 ⟨rfl, hK1⟩; obtain ⟨c0, _, _, q0⟩ := (HX.out.keep0 hK1).pcells) | (go_at_call 23; refine (has_pheap (HX.out.keep0 hK1) (fun F hF => omake 4 s 5 0 E false _ _ _ hF HK.out)).mono ?_; rintro e w2 ⟨rfl, hX2⟩))
    go_ret2
    exact ⟨rfl, hX2⟩
  | yes b ws1 kd' hM hMk hR =>
    have hz := hM.zero
    have hn8 : n ≤ 8 := by rw [← hn]; exact h.snd.qok.1
    have hS1 : inI (S + 1) := ⟨by omega, by omega⟩
    obtain ⟨_, hf1, _⟩ := hMk.ref h.pfine
    obtain ⟨p0, p1, p3, p4, _, _⟩ := hR.madeW hf1 ha (q := q) ⟨by omega, by omega⟩ ht hS1
    have HM := hid hM
    have HK := hid hMk
    have HP0 := hid p0
    have HP1 := hid p1
    have HP3 := hid p3
    have HP4 := hid p4
    have HA := hid ha
    have HT := hid ht
    have HQ := (show Hid (inI (q + 1)) from ⟨by omega, by omega⟩)
    have HS1 := hid hS1
    have hq1 : -1 ≤ q := hz.2.2.1
    have hq2 : q < 8 := by omega
    obtain ⟨hS0, hS2⟩ := hS
    clear h hn hM hMk hR hz hn8 hS1 hf1 p0 p1 p3 p4 ha ht
    go_enter Try.func9, Try.ntmps9
    go_upto_region 9 with (first | (go_at_call 25; refine (pmay n s a q 0 _ HX.out HN.out HM.out).mono ?_; rintro e w1 ⟨rfl, hK1⟩; obtain ⟨c0, _, _, q0⟩ := (HX.out.keep0 hK1).pcells) | (go_at_call 23; refine (has_pheap (HX.out.keep0 hK1) (fun F hF => omake 4 s 5 b 0 false _ _ _ hF HK.out)).mono ?_; rintro e w2 ⟨rfl, hX2⟩))
    obtain ⟨_, c12, f12, _⟩ := hX2.pcells
    have HX3 := hid (hX2.pmade (S + 1))
    clear hX2 c0 q0 hK1 HX HK HM
    go_upto_region 10 with fail
    clear c12 f12
    generalize w2.setCell ⟨pb, 1, none⟩ (.int .i64 (S + 1)) = w3 at *
    obtain ⟨c0, _, _, q0⟩ := HX3.out.pcells
    go_upto_region 11 with (first | (go_at_call 26; refine (has_pheap HX3.out (fun F hF => oput b 0 a 0 _ _ hF HP0.out HA.out)).mono ?_; rintro e w4 ⟨rfl, hX4⟩))
    have HX4 := hid hX4
    clear hX4 HX3 c0 q0
    obtain ⟨c0, _, _, q0⟩ := HX4.out.pcells
    go_upto_region 12 with (first | (go_at_call 26; refine (has_pheap HX4.out (fun F hF => oput b 1 (q + 1) 0 _ _ hF HP1.out HQ.out)).mono ?_; rintro e w5 ⟨rfl, hX5⟩))
    have HX5 := hid hX5
    clear hX5 HX4 c0 q0
    obtain ⟨c0, _, _, q0⟩ := HX5.out.pcells
    go_upto_region 13 with (first | (go_at_call 26; refine (has_pheap HX5.out (fun F hF => oput b 3 t 0 _ _ hF HP3.out HT.out)).mono ?_; rintro e w6 ⟨rfl, hX6⟩))
    have HX6 := hid hX6
    clear hX6 HX5 c0 q0
    obtain ⟨c0, c1, _, q0⟩ := HX6.out.pcells
    go_region_law (first | (go_simp; refine (has_pheap (HX6.out.keep0 (Keep.drew [] _)) (fun F hF => oput b 4 (S + 1) 0 _ _ hF HP4.out HS1.out)).mono ?_; rintro e w7 ⟨rfl, hX7⟩))
    all_goals (go_wp2_with fail)
    all_goals go_ret2
    all_goals exact ⟨rfl, hX7⟩
set_option maxHeartbeats 800000 in
theorem prefer_nil (s a q t : Int) (w : World) :
    Calls Try.prog 9 #[.pointer none, .int .i64 s, .int .i64 a, .int .i64 q, .int .i64 t] w fun e w' => e = .returned (.tuple #[.int .i64 0, .int .i64 2]) ∧ w = w' := by
  go_enter Try.func9, Try.ntmps9
  go_wp2_with fail
  go_ret2
  exact ⟨rfl, rfl⟩

set_option maxRecDepth 100000 in
set_option maxHeartbeats 3200000 in
theorem pclear {B : Asn} (la : Option Addr) (n cp : Nat) (L : List Int) (E : Int) (ws' : List Int) (w : World) (h : Has w0 F0 ((prefA pb qb hb S ws kd ds Ls).star B) w) (hB : ∀ w F, B.at' w F → IntsAt w la L) (hn : L.length = n) (hn6 : n ≤ 1000000) (hT : ClearT kd ws L E ws') :
    Calls Try.prog 20 #[.pointer (some ⟨pb, 0, none⟩), .slice la n cp] w fun e w' => e = .returned (.int .i64 E) ∧ Has w0 F0 ((prefA pb qb hb S ws' kd ds Ls).star B) w' := by
  have HX := hid h
  have HN := hid hn
  have HB := hid hB
  clear hB
  have HFI := hid h.fst.pfine
  cases hT with
  | kind j0 hj0 hR hS =>
    have HR := hid hR
    have HS := hid hS
    have hjn : j0 < n := by omega
    clear h hn hR hS hj0
    go_enter Try.func20, Try.ntmps20
    go_wp2_with fail
    go_loopw [13] (fun i wr => ∃ j : Nat, i = .int .i64 j ∧ j ≤ j0 ∧ Hid (Keep [] w wr)) (fun i _ => j0 - (intOf i).toNat)
    case atStart => exact ⟨0, rfl, by omega, Keep.refl _ _⟩
    case round =>
      obtain ⟨j, rfl, hj, HK⟩ := hrel
      obtain ⟨w1, rfl⟩ : ∃ w1, w1 = wr := ⟨_, rfl⟩
      have HX1 := hid (HX.out.keep0 HK.out)
      have hlt : j < n := by omega
      have hd : decide (j < n) = true := decide_eq_true hlt
      have hd' : decide ((j : Int) < (n : Int)) = true := decide_eq_true (by omega)
      obtain ⟨lb, lo, rfl, _, hcs⟩ := (HX1.out.snd.fact (fun F h => HB.out _ F h)).cells (by have := HN.out; omega)
      have hc := hcs j (by have := HN.out; omega)
      by_cases he : j < j0
      · obtain ⟨b, c, e, hR⟩ := HR.out j he
        rw [e] at hc
        have HST := (show Hid (StrT kd ws (b : Int) c) from .yes b c rfl hR)
        have hcc := hR.cls
        have e0 : (c == 0) = false := by rw [beq_eq_false_iff_ne]; omega
        clear hcs e hR hcc
        go_wp2_with (first | (go_at_call 30; refine (pstr b c _ HX1.out.fst HST.out).mono ?_; rintro e w2 ⟨rfl, hK2⟩))
        go_roundw
        case rel => exact ⟨j + 1, by go_num, by omega, HK.out.trans hK2⟩
        case measure => simp [intOf]; omega
      · obtain rfl : j = j0 := by omega
        clear hcs
        generalize L[j]?.getD 0 = y at *
        go_wp2_with (first | (go_at_call 30; refine (pstr y 0 _ HX1.out.fst HS.out).mono ?_; rintro e w2 ⟨rfl, hK2⟩))
        go_ret
        exact ⟨rfl, HX1.out.keep0 hK2⟩
  | yes hR =>
    have HR := hid hR
    clear h hn hR
    go_enter Try.func20, Try.ntmps20
    go_wp2_with fail
    go_loopw [13] (fun i wr => ∃ j : Nat, i = .int .i64 j ∧ j ≤ n ∧ Hid (Keep [] w wr)) (fun i _ => n - (intOf i).toNat)
    case atStart => exact ⟨0, rfl, by omega, Keep.refl _ _⟩
    case round =>
      obtain ⟨j, rfl, hj, HK⟩ := hrel
      obtain ⟨w1, rfl⟩ : ∃ w1, w1 = wr := ⟨_, rfl⟩
      have HX1 := hid (HX.out.keep0 HK.out)
      by_cases hlt : j < n
      · have hd : decide (j < n) = true := decide_eq_true hlt
        have hd' : decide ((j : Int) < (n : Int)) = true := decide_eq_true (by omega)
        obtain ⟨lb, lo, rfl, _, hcs⟩ := (HX1.out.snd.fact (fun F h => HB.out _ F h)).cells (by have := HN.out; omega)
        have hc := hcs j (by have := HN.out; omega)
        obtain ⟨b, c, e, hR⟩ := HR.out j (by have := HN.out; omega)
        rw [e] at hc
        have HST := (show Hid (StrT kd ws (b : Int) c) from .yes b c rfl hR)
        have hcc := hR.cls
        have e0 : (c == 0) = false := by rw [beq_eq_false_iff_ne]; omega
        clear hcs e hR hcc
        go_wp2_with (first | (go_at_call 30; refine (pstr b c _ HX1.out.fst HST.out).mono ?_; rintro e w2 ⟨rfl, hK2⟩))
        go_roundw
        case rel => exact ⟨j + 1, by go_num, by omega, HK.out.trans hK2⟩
        case measure => simp [intOf]; omega
      · have hd : decide (j < n) = false := decide_eq_false hlt
        have hd' : decide ((j : Int) < (n : Int)) = false := decide_eq_false (by omega)
        have HX2 := (show Hid (Has w0 F0 ((prefA pb qb hb S (clrN ws L 0) kd ds Ls).star B) w1) from HX1.out)
        clear HX HK HX1 hlt
        go_wp2_with fail
        go_loopw [24] (fun i wr => ∃ k : Nat, i = .int .i64 k ∧ k ≤ n ∧ Hid (Has w0 F0 ((prefA pb qb hb S (clrN ws L k) kd ds Ls).star B) wr)) (fun i _ => n - (intOf i).toNat)
        case atStart => exact ⟨0, rfl, by omega, HX2⟩
        case round =>
          obtain ⟨k, rfl, hk, HX3⟩ := hrel
          obtain ⟨w3, rfl⟩ : ∃ w3, w3 = wr := ⟨_, rfl⟩
          clear HX2 hd hd' hj
          by_cases hlt : k < n
          · have hd : decide (k < n) = true := decide_eq_true hlt
            have hd' : decide ((k : Int) < (n : Int)) = true := decide_eq_true (by omega)
            obtain ⟨lb, lo, rfl, _, hcs⟩ := (HX3.out.snd.fact (fun F h => HB.out _ F h)).cells (by have := HN.out; omega)
            have hc := hcs k (by have := HN.out; omega)
            have HP := hid (clrN_put HFI.out HR.out k (by have := HN.out; omega))
            obtain ⟨c0, _, _, q0⟩ := HX3.out.fst.pcells
            generalize L[k]?.getD 0 = y at *
            clear hcs
            go_wp2_with (first | (go_at_call 26; refine (has_left HX3.out (fun F hF => has_pheap hF (fun F hF => oput y 0 0 0 _ _ hF HP.out inI_0))).mono ?_; rintro e w4 ⟨rfl, hX4⟩))
            go_roundw
            case rel => exact ⟨k + 1, by go_num, by omega, hX4⟩
            case measure => simp [intOf]; omega
          · obtain rfl : k = n := by omega
            have hd : decide (k < k) = false := decide_eq_false hlt
            have hd' : decide ((k : Int) < (k : Int)) = false := decide_eq_false (by omega)
            go_wp2_with fail
            go_ret
            rw [HN.out]
            exact ⟨rfl, HX3.out⟩

/-- A list of one that is new. -/
theorem Has.single {A : Asn} (h : Has w0 F0 A w) (a : Int) (ha : inI a) : Has w0 F0 (A.star (listA (some ⟨w.heap.size, 0, none⟩) [a])) (w.alloc (.cells #[.int .i64 a] 3)) :=
  h.more (Keep.alloc [] w _) (G := [w.heap.size]) ⟨rfl, IntsAt.single w _ a ha.1 ha.2, fun x e => by cases e; simp⟩ (fun k hk => by simp at hk; omega)
/-- Clear of one. -/
theorem clear_one {a E : Int} {ws' : List Int} (hT : ClearT kd ws [a] E ws') : (StrT kd ws a 0 ∧ E = 5 ∧ ws' = ws) ∨ ∃ (b : Nat) (c : Int), a = b ∧ RefC kd ws b c ∧ E = 0 ∧ ws' = ws.set (b + 1) 0 := by
  cases hT with
  | kind j hj _ hS =>
    obtain rfl : j = 0 := by simp at hj; omega
    exact .inl ⟨hS, rfl, rfl⟩
  | yes h =>
    obtain ⟨b, c, e, hR⟩ := h 0 (by simp)
    have e' : a = b := by simpa using e
    exact .inr ⟨b, c, e', hR, rfl, by simp [clrN, e']⟩
theorem StrT.clear {a : Int} (h : StrT kd ws a 0) : ClearT kd ws [a] 5 ws := .kind 0 (by simp) (fun i hi => by omega) h
theorem RefC.clear {b : Nat} {c : Int} (h : RefC kd ws b c) : ClearT kd ws [(b : Int)] 0 (ws.set (b + 1) 0) :=
  .yes (fun i hi => by
    obtain rfl : i = 0 := by simp at hi; omega
    exact ⟨b, c, rfl, h⟩)

set_option maxRecDepth 100000 in
set_option maxHeartbeats 3200000 in
theorem penq (a E : Int) (g : Bool) (ws' : List Int) (Ls' : List (List Int)) (w : World) (h : Has w0 F0 (prefA pb qb hb S ws kd ds Ls) w) (hT : EnqT kd ws Ls a g E ws' Ls') (ha : inI a) (hl : ∀ L, L ∈ Ls → L.length < 999999) :
    Calls Try.prog 11 #[.pointer (some ⟨pb, 0, none⟩), .int .i64 a] w fun e w' => e = .returned (.tuple #[.bool g, .int .i64 E]) ∧ Has w0 F0 (prefA pb qb hb S ws' kd ds Ls') w' := by
  have HX := hid (h.single a ha)
  have hf := h.pfine
  cases hT with
  | kind hS =>
    have HS := hid hS.clear
    clear h hS hf
    go_enter Try.func11, Try.ntmps11
    go_wp2_with (first | (go_at_call 20; refine (pclear _ 1 _ [a] 5 _ _ HX.out (fun _ _ h => h.2.1) rfl (by omega) HS.out).mono ?_; rintro e w1 ⟨rfl, hX1⟩))
    go_ret2
    exact ⟨rfl, hX1.fst⟩
  | no b c e hR hx =>
    subst e
    have HS := hid hR.clear
    have hi := hR.inner hf 0 (by omega)
    have hf2 := hi.fine hf inI_0
    have HF := hid ((hR.set hf.wf hi 0).field hf2 1 (by omega))
    have hx2 : (ws.set (b + 1) 0)[b + 1 + 1]?.getD 0 = ws[b + 2]?.getD 0 := set_get_other _ _ _ _ (by omega)
    obtain ⟨x, hxe⟩ : ∃ x, (ws.set (b + 1) 0)[b + 1 + 1]?.getD 0 = x := ⟨_, rfl⟩
    have hx0 : x ≤ 0 := by omega
    have HF2 := (show Hid (FieldT kd (ws.set (b + 1) 0) (b : Int) 1 x 0) from by rw [← hxe]; exact HF.out)
    clear h hR hf hi hf2 HF hx2 hxe hx
    go_enter Try.func11, Try.ntmps11
    go_upto_region 4 with (first | (go_at_call 20; refine (pclear _ 1 _ [(b : Int)] 0 _ _ HX.out (fun _ _ h => h.2.1) rfl (by omega) HS.out).mono ?_; rintro e w1 ⟨rfl, hX1⟩))
    have HX1 := hid hX1.fst
    clear hX1 HX
    obtain ⟨c0, _, _, q0⟩ := HX1.out.pcells
    go_wp2_with (first | (go_at_call 16; refine (ofield b 1 x 0 _ HX1.out.pheap HF2.out).mono ?_; rintro e w2 ⟨rfl, hK2⟩))
    go_ret2
    exact ⟨rfl, HX1.out.keep0 hK2⟩
  | yes b c x E ws' Ls' e hR hx hx1 hP hR' =>
    subst e
    have HS := hid hR.clear
    have hi := hR.inner hf 0 (by omega)
    have hf2 := hi.fine hf inI_0
    have HF := hid ((hR.set hf.wf hi 0).field hf2 1 (by omega))
    have hx2 : (ws.set (b + 1) 0)[b + 1 + 1]?.getD 0 = ws[b + 2]?.getD 0 := set_get_other _ _ _ _ (by omega)
    have HF2 := (show Hid (FieldT kd (ws.set (b + 1) 0) (b : Int) 1 x 0) from by rw [← hx, ← hx2]; exact HF.out)
    have HPU := hid hP
    have HR := hid hR'
    have HA := hid ha
    have HL := hid hl
    have hxi : inI x := by rw [← hx]; exact hf.ob.bd _
    obtain ⟨_, hx3⟩ := hxi
    have hd : decide (x ≤ 0) = false := decide_eq_false (by omega)
    clear h hR hf hi hf2 HF hx2 hx hP hR' ha hl
    go_enter Try.func11, Try.ntmps11
    go_upto_region 4 with (first | (go_at_call 20; refine (pclear _ 1 _ [(b : Int)] 0 _ _ HX.out (fun _ _ h => h.2.1) rfl (by omega) HS.out).mono ?_; rintro e w1 ⟨rfl, hX1⟩))
    have HX1 := hid hX1.fst
    clear hX1 HX HS
    obtain ⟨c0, _, _, q0⟩ := HX1.out.pcells
    go_upto_region 5 with (first | (go_at_call 16; refine (ofield b 1 x 0 _ HX1.out.pheap HF2.out).mono ?_; rintro e w2 ⟨rfl, hK2⟩))
    have HX2 := hid (HX1.out.keep0 hK2)
    clear hK2 HX1 c0 q0 HF2
    obtain ⟨c0, _, _, q0⟩ := HX2.out.pcells
    go_upto_region 8 with (first | (go_at_call 27; refine (has_pqueue HX2.out (fun F hF => qpush (x - 1) b E _ _ _ hF HPU.out HA.out HL.out)).mono ?_; rintro e w3 ⟨rfl, hX3⟩))
    have HX3 := hid hX3
    clear hX3 HX2 c0 q0 HPU
    have HP2 := hid (HR.out.put HX3.out.pfine 1 (by omega) (-1))
    obtain ⟨c0, _, _, q0⟩ := HX3.out.pcells
    go_wp2_with (first | (go_at_call 26; refine (has_pheap HX3.out (fun F hF => oput b 1 (-1) 0 _ _ hF HP2.out ⟨by omega, by omega⟩)).mono ?_; rintro e w4 ⟨rfl, hX4⟩))
    go_ret2
    exact ⟨rfl, hX4⟩
end

end Go.Proofs.Ytamcoejlghfleaa

/-
  Objects of numbers made one behind the other, then references: what there is then. Plain facts.
-/
namespace Go.Proofs.Ytamcoejlghfleaa
open Go.RowKit

/-- The first n objects of two numbers: words, pages and addresses, one by one. -/
structure DChain (n : Nat) (W : Nat → List Int) (K : Nat → List PK) (A : Nat → Nat) : Prop where
  w0 : W 0 = zeros (64 * 40)
  k0 : K 0 = freshK 40
  step : ∀ i, i < n → MakeT (K i) (W i) [] 3 0 2 false (A i : Int) 0 (W (i + 1)) (K (i + 1))
  fine : ∀ i, i ≤ n → Fine (W i) (K i) [] ∧ (K i).length = 40 ∧ FreeFrom (K i) (1 + i)
  objs : ∀ i, i ≤ n → ∀ j, j < i → ∃ m : Nat, At (K i) (W i) (A j : Nat) (A j) m 3 0 2 false
theorem pages3 : pagesI (2 + 1) ≤ (1 : Nat) := by decide
theorem dchain_ex (n : Nat) (hn : n ≤ 30) : ∃ W K A, DChain n W K A := by
  induction n with
  | zero =>
    refine ⟨fun _ => zeros (64 * 40), fun _ => freshK 40, fun _ => 0, rfl, rfl, fun i h => by omega, fun i h => ⟨Fine.fresh 40 (by omega) (by omega), freshK_length 40, ?_⟩, fun i h j hj => by omega⟩
    exact (FreeFrom.fresh 40 (by omega)).mono (by omega)
  | succ n ih =>
    obtain ⟨W, K, A, hC⟩ := ih (by omega)
    obtain ⟨hf, hk, hfree⟩ := hC.fine n (Nat.le_refl _)
    have hm := may_data 2 (by omega) (by omega)
    obtain ⟨a, b, kd', t1, r1, e1, g1⟩ := make_from (kd := K n) (ds := []) (s := 1 + n) (K := 1) (W n) hf.wf hm (.other (by omega)) pages3 (by omega) (by rw [hk]; omega) hfree
    obtain ⟨f1, l1⟩ := t1.fine hf
    obtain ⟨ws', hws⟩ : ∃ ws', (fill0 (W n) a b).set a (putH 3 0 2 false) = ws' := ⟨_, rfl⟩
    have hat : At kd' ws' (a : Nat) a b 3 0 2 false := by rw [← hws]; exact MakeT.at hf.wf hf.len hm r1 e1
    have hold : ∀ (p m : Nat) (k c l : Int) (f : Bool), At (K n) (W n) (p : Nat) p m k c l f → At kd' ws' (p : Nat) p m k c l f := fun p m k c l f h => by rw [← hws]; exact (h.made hf.wf hf.len r1 e1).1
    rw [hws] at t1 f1
    have hW : ∀ i, i ≤ n → (if i ≤ n then W i else ws') = W i := fun i h => if_pos h
    have hK : ∀ i, i ≤ n → (if i ≤ n then K i else kd') = K i := fun i h => if_pos h
    have hA : ∀ i, i < n → (if i < n then A i else a) = A i := fun i h => if_pos h
    refine ⟨fun i => if i ≤ n then W i else ws', fun i => if i ≤ n then K i else kd', fun i => if i < n then A i else a, hC.w0, hC.k0, ?_, ?_, ?_⟩
    · intro i hi
      show MakeT (if i ≤ n then K i else kd') (if i ≤ n then W i else ws') [] 3 0 2 false ((if i < n then A i else a : Nat) : Int) 0 (if i + 1 ≤ n then W (i + 1) else ws') (if i + 1 ≤ n then K (i + 1) else kd')
      rcases Nat.lt_or_ge i n with h | h
      · rw [hW i (by omega), hK i (by omega), hA i h, hW (i + 1) (by omega), hK (i + 1) (by omega)]
        exact hC.step i h
      · obtain rfl : i = n := by omega
        rw [hW i (by omega), hK i (by omega), if_neg (by omega), if_neg (by omega), if_neg (by omega)]
        exact t1
    · intro i hi
      show Fine (if i ≤ n then W i else ws') (if i ≤ n then K i else kd') [] ∧ (if i ≤ n then K i else kd').length = 40 ∧ FreeFrom (if i ≤ n then K i else kd') (1 + i)
      rcases Nat.lt_or_ge n i with h | h
      · obtain rfl : i = n + 1 := by omega
        rw [if_neg (by omega), if_neg (by omega)]
        exact ⟨f1, by rw [l1, hk], g1.mono (by omega)⟩
      · rw [hW i h, hK i h]
        exact hC.fine i h
    · intro i hi j hj
      show ∃ m : Nat, At (if i ≤ n then K i else kd') (if i ≤ n then W i else ws') ((if j < n then A j else a : Nat) : Int) (if j < n then A j else a) m 3 0 2 false
      rcases Nat.lt_or_ge n i with h | h
      · obtain rfl : i = n + 1 := by omega
        rw [if_neg (by omega), if_neg (by omega)]
        rcases Nat.lt_or_ge j n with hjn | hjn
        · rw [hA j hjn]
          obtain ⟨m, hm⟩ := hC.objs n (Nat.le_refl _) j hjn
          exact ⟨m, hold _ _ _ _ _ _ hm⟩
        · rw [if_neg (by omega)]
          exact ⟨b, hat⟩
      · rw [hW i h, hK i h, hA j (by omega)]
        exact hC.objs i h j hj
theorem DChain.bd {n : Nat} {W : Nat → List Int} {K : Nat → List PK} {A : Nat → Nat} (h : DChain n W K A) (j : Nat) (hj : j < n) : 64 ≤ A j ∧ A j ≤ 2560 := by
  obtain ⟨m, hm⟩ := h.objs n (Nat.le_refl _) j hj
  obtain ⟨hf, hk, _⟩ := h.fine n (Nat.le_refl _)
  have := hm.facts hf.wf
  omega
theorem DChain.aBd {n : Nat} {W : Nat → List Int} {K : Nat → List PK} {A : Nat → Nat} (h : DChain n W K A) (q : Nat) (hq : q ≤ n) : ∀ i : Nat, -9223372036854775808 ≤ (aL A q)[i]?.getD 0 ∧ (aL A q)[i]?.getD 0 ≤ 9223372036854775807 := by
  intro i
  by_cases hi : i < q
  · rw [aL_get A q i hi]; have := h.bd i (by omega); omega
  · rw [List.getElem?_eq_none (by rw [aL_length]; omega)]; simp

/-- A reference, and its five fields. -/
structure RF (kd : List PK) (ws : List Int) (b : Nat) (c r q nx s t : Int) : Prop where
  ref : RefC kd ws b c
  f0 : ws[b + 1]?.getD 0 = r
  f1 : ws[b + 2]?.getD 0 = q
  f2 : ws[b + 3]?.getD 0 = nx
  f3 : ws[b + 4]?.getD 0 = s
  f4 : ws[b + 5]?.getD 0 = t
section
variable {kd kd' : List PK} {ws ws' : List Int} {b b' i : Nat} {c c' r q nx s t x : Int}
theorem RF.other (h : RF kd ws b c r q nx s t) (hf : Fine ws kd []) (h' : RefC kd ws b' c') (hne : b ≠ b') (hi : i < 5) (x : Int) : RF kd (ws.set (b' + 1 + i) x) b c r q nx s t := by
  have key : ∀ j, j < 5 → (ws.set (b' + 1 + i) x)[b + 1 + j]?.getD 0 = ws[b + 1 + j]?.getD 0 := fun j hj => set_get_other _ _ _ _ (fun e => hne ((h'.apart h.ref hf hi hj e).1).symm)
  exact ⟨h.ref.set hf.wf (h'.inner hf i hi) x, (key 0 (by omega)).trans h.f0, (key 1 (by omega)).trans h.f1, (key 2 (by omega)).trans h.f2, (key 3 (by omega)).trans h.f3, (key 4 (by omega)).trans h.f4⟩
theorem RF.set0 (h : RF kd ws b c r q nx s t) (hf : Fine ws kd []) (x : Int) : RF kd (ws.set (b + 1) x) b c x q nx s t := by
  have hi := h.ref.inner hf 0 (by omega)
  have := hi.lt hf
  refine ⟨h.ref.set hf.wf hi x, set_get_same _ _ _ this, ?_, ?_, ?_, ?_⟩
  · rw [set_get_other _ _ _ _ (by omega)]; exact h.f1
  · rw [set_get_other _ _ _ _ (by omega)]; exact h.f2
  · rw [set_get_other _ _ _ _ (by omega)]; exact h.f3
  · rw [set_get_other _ _ _ _ (by omega)]; exact h.f4
theorem RF.set1 (h : RF kd ws b c r q nx s t) (hf : Fine ws kd []) (x : Int) : RF kd (ws.set (b + 2) x) b c r x nx s t := by
  have hi := h.ref.inner hf 1 (by omega)
  have := hi.lt hf
  refine ⟨h.ref.set hf.wf hi x, ?_, set_get_same _ _ _ this, ?_, ?_, ?_⟩
  · rw [set_get_other _ _ _ _ (by omega)]; exact h.f0
  · rw [set_get_other _ _ _ _ (by omega)]; exact h.f2
  · rw [set_get_other _ _ _ _ (by omega)]; exact h.f3
  · rw [set_get_other _ _ _ _ (by omega)]; exact h.f4
theorem RF.set2 (h : RF kd ws b c r q nx s t) (hf : Fine ws kd []) (x : Int) : RF kd (ws.set (b + 3) x) b c r q x s t := by
  have hi := h.ref.inner hf 2 (by omega)
  have := hi.lt hf
  refine ⟨h.ref.set hf.wf hi x, ?_, ?_, set_get_same _ _ _ this, ?_, ?_⟩
  · rw [set_get_other _ _ _ _ (by omega)]; exact h.f0
  · rw [set_get_other _ _ _ _ (by omega)]; exact h.f1
  · rw [set_get_other _ _ _ _ (by omega)]; exact h.f3
  · rw [set_get_other _ _ _ _ (by omega)]; exact h.f4
theorem RF.set3 (h : RF kd ws b c r q nx s t) (hf : Fine ws kd []) (x : Int) : RF kd (ws.set (b + 4) x) b c r q nx x t := by
  have hi := h.ref.inner hf 3 (by omega)
  have := hi.lt hf
  refine ⟨h.ref.set hf.wf hi x, ?_, ?_, ?_, set_get_same _ _ _ this, ?_⟩
  · rw [set_get_other _ _ _ _ (by omega)]; exact h.f0
  · rw [set_get_other _ _ _ _ (by omega)]; exact h.f1
  · rw [set_get_other _ _ _ _ (by omega)]; exact h.f2
  · rw [set_get_other _ _ _ _ (by omega)]; exact h.f4
theorem RF.set4 (h : RF kd ws b c r q nx s t) (hf : Fine ws kd []) (x : Int) : RF kd (ws.set (b + 5) x) b c r q nx s x := by
  have hi := h.ref.inner hf 4 (by omega)
  have := hi.lt hf
  refine ⟨h.ref.set hf.wf hi x, ?_, ?_, ?_, ?_, set_get_same _ _ _ this⟩
  · rw [set_get_other _ _ _ _ (by omega)]; exact h.f0
  · rw [set_get_other _ _ _ _ (by omega)]; exact h.f1
  · rw [set_get_other _ _ _ _ (by omega)]; exact h.f2
  · rw [set_get_other _ _ _ _ (by omega)]; exact h.f3
theorem RF.field (h : RF kd ws b c r q nx s t) (hf : Fine ws kd []) : FieldT kd ws b 0 r 0 ∧ FieldT kd ws b 1 q 0 ∧ FieldT kd ws b 2 nx 0 ∧ FieldT kd ws b 3 s 0 ∧ FieldT kd ws b 4 t 0 := by
  have h0 := h.ref.field hf 0 (by omega)
  have h1 := h.ref.field hf 1 (by omega)
  have h2 := h.ref.field hf 2 (by omega)
  have h3 := h.ref.field hf 3 (by omega)
  have h4 := h.ref.field hf 4 (by omega)
  rw [show b + 1 + 0 = b + 1 from rfl, h.f0] at h0
  rw [show b + 1 + 1 = b + 2 from rfl, h.f1] at h1
  rw [show b + 1 + 2 = b + 3 from rfl, h.f2] at h2
  rw [show b + 1 + 3 = b + 4 from rfl, h.f3] at h3
  rw [show b + 1 + 4 = b + 5 from rfl, h.f4] at h4
  exact ⟨h0, h1, h2, h3, h4⟩
end

/-- So many objects, and references with what they were made of. -/
structure ST (kd : List PK) (ws : List Int) (u : Nat) (D L : List Int) (cl r q : Nat → Int) : Prop where
  fine : Fine ws kd []
  len : kd.length = 40
  free : FreeFrom kd (1 + u)
  data : ∀ j, j < D.length → ∃ (d m : Nat), D[j]?.getD 0 = d ∧ At kd ws d d m 3 0 2 false
  refs : ∀ j, j < L.length → ∃ (b : Nat) (nx s t : Int), L[j]?.getD 0 = b ∧ RF kd ws b (cl j) (r j) (q j) nx s t
  ne : ∀ i j, i < L.length → j < L.length → L[i]?.getD 0 = L[j]?.getD 0 → i = j
theorem DChain.st {n : Nat} {W : Nat → List Int} {K : Nat → List PK} {A : Nat → Nat} (h : DChain n W K A) (cl r q : Nat → Int) : ST (K n) (W n) n (aL A n) [] cl r q := by
  obtain ⟨h1, h2, h3⟩ := h.fine n (Nat.le_refl _)
  refine ⟨h1, h2, h3, fun j hj => ?_, fun j hj => by simp at hj, fun i j hi => by simp at hi⟩
  rw [aL_length] at hj
  obtain ⟨m, hm⟩ := h.objs n (Nat.le_refl _) j hj
  exact ⟨A j, m, aL_get A n j hj, hm⟩
section
variable {kd : List PK} {ws D L : List Int} {u : Nat} {cl r q : Nat → Int}
theorem ST.objs (h : ST kd ws u D L cl r q) (j : Nat) (hj : j < D.length) : ∃ (d m : Nat) (k c l : Int) (f : Bool), D[j]?.getD 0 = d ∧ At kd ws d d m k c l f := by
  obtain ⟨d, m, e, hA⟩ := h.data j hj
  exact ⟨d, m, 3, 0, 2, false, e, hA⟩
theorem ST.at' (h : ST kd ws u D L cl r q) {j b : Nat} (hj : j < L.length) (hb : L[j]?.getD 0 = (b : Int)) : ∃ nx s t, RF kd ws b (cl j) (r j) (q j) nx s t := by
  obtain ⟨b', nx, s, t, e, hR⟩ := h.refs j hj
  obtain rfl : b = b' := by omega
  exact ⟨nx, s, t, hR⟩
/-- A field of one is put. -/
theorem ST.put (h : ST kd ws u D L cl r q) {i j b : Nat} {x : Int} (hj : j < L.length) (hb : L[j]?.getD 0 = (b : Int)) (hi : i < 4) (hx : inI x) {r' q' : Nat → Int}
    (hr : ∀ k, k < L.length → r' k = if k = j ∧ i = 0 then x else r k) (hq : ∀ k, k < L.length → q' k = if k = j ∧ i = 1 then x else q k) : ST kd (ws.set (b + 1 + i) x) u D L cl r' q' := by
  obtain ⟨nx, s, t, hR⟩ := h.at' hj hb
  have hin := hR.ref.inner h.fine i (by omega)
  refine ⟨hin.fine h.fine hx, h.len, h.free, fun d hd => ?_, fun k hk => ?_, h.ne⟩
  · obtain ⟨d, m, e, hA⟩ := h.data d hd
    exact ⟨d, m, e, (hin.at' h.fine.wf).2 hA⟩
  · rw [hr k hk, hq k hk]
    by_cases e : k = j
    · subst e
      rcases (show i = 0 ∨ i = 1 ∨ i = 2 ∨ i = 3 by omega) with rfl | rfl | rfl | rfl
      · rw [if_pos ⟨rfl, rfl⟩, if_neg (by omega)]
        exact ⟨b, _, _, _, hb, hR.set0 h.fine x⟩
      · rw [if_neg (by omega), if_pos ⟨rfl, rfl⟩]
        exact ⟨b, _, _, _, hb, hR.set1 h.fine x⟩
      · rw [if_neg (by omega), if_neg (by omega)]
        exact ⟨b, _, _, _, hb, hR.set2 h.fine x⟩
      · rw [if_neg (by omega), if_neg (by omega)]
        exact ⟨b, _, _, _, hb, hR.set3 h.fine x⟩
    · rw [if_neg (fun g => e g.1), if_neg (fun g => e g.1)]
      obtain ⟨b2, nx2, s2, t2, e2, hR2⟩ := h.refs k hk
      exact ⟨b2, nx2, s2, t2, e2, hR2.other h.fine hR.ref (fun g => e (h.ne k j hk hj (by rw [e2, hb, g]))) (by omega) x⟩
theorem snoc_at13 (L : List Int) (x : Int) (j : Nat) : (L ++ [x])[j]?.getD 0 = if j < L.length then L[j]?.getD 0 else if j = L.length then x else 0 := by
  rcases Nat.lt_trichotomy j L.length with h | h | h
  · rw [if_pos h, List.getElem?_append_left h]
  · subst h; rw [if_neg (by omega), if_pos rfl]; simp
  · rw [if_neg (by omega), if_neg (by omega), List.getElem?_eq_none (by simp; omega)]; rfl
/-- One more is made. -/
theorem ST.refer (h : ST kd ws u D L cl r q) (hu : u ≤ 37) {n : Nat} {S s a qq t : Int} (h1 : 1 ≤ s) (h2 : s ≤ 3) (h3 : -1 ≤ qq) (h4 : qq < n) (h5 : ¬ (s = 3 ∧ qq = -1)) (ha : ∃ (d m : Nat) (k c l : Int) (f : Bool), a = d ∧ At kd ws d d m k c l f) (hn : n ≤ 8) (ht : inI t) (hS : inI (S + 1))
    (e1 : cl L.length = s) (e2 : r L.length = a) (e3 : q L.length = qq + 1) : ∃ (b : Nat) (ws' : List Int) (kd' : List PK), ReferT kd ws [] n S s a qq t b 0 ws' kd' (S + 1) ∧ ST kd' ws' (u + 1) D (L ++ [(b : Int)]) cl r q ∧ RF kd' ws' b s a (qq + 1) 0 t (S + 1) ∧ (∀ (b2 : Nat) (c2 r2 q2 nx s2 t2 : Int), RF kd ws b2 c2 r2 q2 nx s2 t2 → RF kd' ws' b2 c2 r2 q2 nx s2 t2) ∧ 64 ≤ b ∧ b ≤ 2560 := by
  obtain ⟨d, dm, k, c, l, f, ea, hA⟩ := ha
  have haI : inI a := by
    have := hA.facts h.fine.wf
    exact ⟨by omega, by omega⟩
  have hM : MayT kd ws n s a qq 0 := .head k c l 0 f h1 h2 h3 h4 h5 (by rw [ea]; exact .yes d dm k c l f hA)
  have hm := mayH_ref h1 h2
  obtain ⟨b, bm, kd', hMk, hr, hb, hfr⟩ := make_from (kd := kd) (ds := []) (s := 1 + u) (K := 1) ws h.fine.wf hm (.other (by omega)) pages6 (by omega) (by rw [h.len]; omega) h.free
  obtain ⟨ws1, hws1⟩ : ∃ ws1, (fill0 ws b bm).set b (putH 4 s 5 false) = ws1 := ⟨_, rfl⟩
  rw [hws1] at hMk
  obtain ⟨hR, hf1, hl1, hold, hnew⟩ := hMk.ref h.fine
  have hqI : inI (qq + 1) := ⟨by omega, by omega⟩
  obtain ⟨_, _, _, _, hf5, hR5⟩ := hR.madeW hf1 haI hqI ht hS
  have hbd : 64 ≤ b ∧ b ≤ 2560 := by
    obtain ⟨m, hm'⟩ := hR5
    have := hm'.facts hf5.wf
    rw [hl1, h.len] at this
    omega
  have key : ∀ p, (∀ i, i < 5 → b + 1 + i ≠ p) → (madeW ws1 b a qq t (S + 1))[p]?.getD 0 = ws1[p]?.getD 0 := by
    intro p hp
    have q0 := hp 0 (by omega)
    have q1 := hp 1 (by omega)
    have q3 := hp 3 (by omega)
    have q4 := hp 4 (by omega)
    unfold madeW
    rw [set_get_other _ _ _ _ (by omega), set_get_other _ _ _ _ (by omega), set_get_other _ _ _ _ (by omega), set_get_other _ _ _ _ (by omega)]
  have hAt : ∀ (p m : Nat) (k c l : Int) (f : Bool), At kd ws p p m k c l f → At kd' (madeW ws1 b a qq t (S + 1)) p p m k c l f := by
    intro p m k c l f hp
    have g1 := (hold p m k c l f hp).1
    unfold madeW
    exact ((hR.inner hf1 4 (by omega)).at' hf1.wf).2 (((hR.inner hf1 3 (by omega)).at' hf1.wf).2 (((hR.inner hf1 1 (by omega)).at' hf1.wf).2 (((hR.inner hf1 0 (by omega)).at' hf1.wf).2 g1)))
  have hnew' : RF kd' (madeW ws1 b a qq t (S + 1)) b s a (qq + 1) 0 t (S + 1) := by
    have r0 : RF kd' ws1 b s 0 0 0 0 0 := ⟨hR, hnew 0 (by omega), hnew 1 (by omega), hnew 2 (by omega), hnew 3 (by omega), hnew 4 (by omega)⟩
    have p0 := hR.inner hf1 0 (by omega)
    have p1 := hR.inner hf1 1 (by omega)
    have p3 := hR.inner hf1 3 (by omega)
    have f1 := p0.fine hf1 haI
    have f2 := p1.fine f1 hqI
    have f3 := p3.fine f2 ht
    exact (((r0.set0 hf1 a).set1 f1 (qq + 1)).set3 f2 t).set4 f3 (S + 1)
  have hkeep : ∀ (b2 : Nat) (c2 r2 q2 nx s2 t2 : Int), RF kd ws b2 c2 r2 q2 nx s2 t2 → RF kd' (madeW ws1 b a qq t (S + 1)) b2 c2 r2 q2 nx s2 t2 ∧ b2 ≠ b := by
    intro b2 c2 r2 q2 nx s2 t2 hR2
    obtain ⟨m2, hA2⟩ := hR2.ref
    obtain ⟨g1, g2, g3⟩ := hold b2 m2 _ _ _ _ hA2
    have hrm := at_room h.fine hA2
    have hw : ∀ i, i < 5 → (madeW ws1 b a qq t (S + 1))[b2 + 1 + i]?.getD 0 = ws[b2 + 1 + i]?.getD 0 := by
      intro i hi
      rw [key _ (fun i' hi' => by omega), Nat.add_assoc, g3 (1 + i) (by omega)]
    exact ⟨⟨⟨m2, hAt _ _ _ _ _ _ hA2⟩, (hw 0 (by omega)).trans hR2.f0, (hw 1 (by omega)).trans hR2.f1, (hw 2 (by omega)).trans hR2.f2, (hw 3 (by omega)).trans hR2.f3, (hw 4 (by omega)).trans hR2.f4⟩, by omega⟩
  have hoff : ∀ j, j < L.length → ∃ (b2 : Nat) (nx s' t' : Int), L[j]?.getD 0 = b2 ∧ RF kd' (madeW ws1 b a qq t (S + 1)) b2 (cl j) (r j) (q j) nx s' t' ∧ b2 ≠ b := by
    intro j hj
    obtain ⟨b2, nx, s', t', e, hR2⟩ := h.refs j hj
    exact ⟨b2, nx, s', t', e, hkeep _ _ _ _ _ _ _ hR2⟩
  refine ⟨b, _, kd', .yes b ws1 kd' hM hMk hR, ⟨hf5, by rw [hl1, h.len], hfr.mono (by omega), fun j hj => ?_, fun j hj => ?_, fun i j hi hj e => ?_⟩, hnew', fun b2 c2 r2 q2 nx s2 t2 h => (hkeep b2 c2 r2 q2 nx s2 t2 h).1, hbd⟩
  · obtain ⟨d, m, e, hA⟩ := h.data j hj
    exact ⟨d, m, e, hAt _ _ _ _ _ _ hA⟩
  · rw [snoc_at13]
    rw [List.length_append, List.length_singleton] at hj
    by_cases hjl : j < L.length
    · rw [if_pos hjl]
      obtain ⟨b2, nx, s', t', e, hR2, _⟩ := hoff j hjl
      exact ⟨b2, nx, s', t', e, hR2⟩
    · obtain rfl : j = L.length := by omega
      rw [if_neg (by omega), if_pos rfl, e1, e2, e3]
      exact ⟨b, _, _, _, rfl, hnew'⟩
  · rw [List.length_append, List.length_singleton] at hi hj
    rw [snoc_at13, snoc_at13] at e
    by_cases hil : i < L.length
    · by_cases hjl : j < L.length
      · rw [if_pos hil, if_pos hjl] at e
        exact h.ne i j hil hjl e
      · rw [if_pos hil, if_neg hjl, if_pos (by omega)] at e
        obtain ⟨b2, _, _, _, e2', _, hne⟩ := hoff i hil
        omega
    · by_cases hjl : j < L.length
      · rw [if_neg hil, if_pos (by omega), if_pos hjl] at e
        obtain ⟨b2, _, _, _, e2', _, hne⟩ := hoff j hjl
        omega
      · omega
end

end Go.Proofs.Ytamcoejlghfleaa

/-
  A list of integers that grows, as a part of memory beside others.
-/
namespace Go.Proofs.Ytamcoejlghfleaa
open Go.RowKit

def ownA (t : TypeId) (la : Option Addr) (q c : Nat) (L : List Int) : Asn where
  at' w F := F = la.toList.map (·.block) ∧ w.ownsRow 0 t 1 (.slice la q c) q (ints L) ∧ ∀ a, la = some a → a.block < w.heap.size
  keep := fun h K hS => ⟨h.1, own_keepS h.2.1 K (fun y e => hS _ (by rw [h.1, e]; simp)), fun a e => Nat.lt_of_lt_of_le (h.2.2 a e) K.size⟩
  lt := fun h k hk => by
    rw [h.1] at hk
    simp at hk
    obtain ⟨a, e, rfl⟩ := hk
    exact h.2.2 a e
theorem Has.own {w0 w : World} {F0 : List Nat} {t : TypeId} {la : Option Addr} {q c : Nat} {L : List Int} (h : Has w0 F0 (ownA t la q c L) w) : w.ownsRow 0 t 1 (.slice la q c) q (ints L) := h.fact (fun _ h => h.2.1)
theorem Has.ownNew {w0 w : World} {F0 : List Nat} {A : Asn} (t : TypeId) (h : Has w0 F0 A w) : Has w0 F0 (A.star (ownA t none 0 0 [])) w :=
  h.more (Keep.refl _ _) (G := []) ⟨rfl, World.ownsRow_nil _ _ _ _, by simp⟩ (by simp)
theorem Has.ownMore {w0 w w' : World} {F0 : List Nat} {A : Asn} {t : TypeId} {la : Option Addr} {q c q' c' g H : Nat} {L L' : List Int} (h : Has w0 F0 (A.star (ownA t la q c L)) w) (ho : w'.ownsRow 0 t 1 (.slice (some ⟨g, 0, none⟩) q' c') q' (ints L')) (hg : w.grownBy w' (Value.slice la q c).ownBlock)
    (hb : (Value.slice la q c).ownBlock = some g ∨ g = H) (hH : w.heap.size = H) (hlt : g < w'.heap.size) : Has w0 F0 (A.star (ownA t (some ⟨g, 0, none⟩) q' c' L')) w' := by
  refine (Has.left h.comm (A' := ownA t (some ⟨g, 0, none⟩) q' c' L') (fun F hF => ⟨[g], ⟨rfl, ho, fun a e => by cases e; exact hlt⟩, ?_, fun k hk => ?_⟩)).comm
  · rw [hF.1]; exact grown_keep hg
  · simp at hk
    subst hk
    rcases hb with hb | hb
    · left
      rw [hF.1]
      cases la with
      | none => simp [Value.ownBlock] at hb
      | some z => simp [Value.ownBlock] at hb; simp [hb]
    · right; omega

end Go.Proofs.Ytamcoejlghfleaa

/-
  Whole and awake of gloaminglaw9.
-/
namespace Go.Proofs.Ytamcoejlghfleaa
open Go.RowKit

section
variable {w0 : World} {F0 : List Nat} {hb : Nat} {ws : List Int} {kd : List PK} {ds : List (Int × List Int)}
set_option maxRecDepth 100000 in
set_option maxHeartbeats 1600000 in
theorem owhole (w : World) (h : Has w0 F0 (heapA hb ws kd ds) w) :
    Calls Try.prog 22 #[.pointer (some ⟨hb, 0, none⟩)] w fun e w' => e = .returned (.bool true) ∧ w = w' := by
  obtain ⟨sb, tb, hr⟩ := h.raw
  obtain ⟨c0, c1, ⟨ab, ag, c2, _⟩, ⟨pb, c3⟩, _⟩ := hr.cells
  clear h hr
  go_enter Try.func22, Try.ntmps22
  go_wp2_with fail
  go_ret
  exact ⟨rfl, rfl⟩
end

theorem Fine.add {ws : List Int} {kd : List PK} {ds : List (Int × List Int)} (h : Fine ws kd ds) (f : Int) (L : List Int) : Fine ws kd (addR ds f L) := by
  unfold addR
  split
  · rename_i e
    simp at e
    exact ⟨h.wf, h.ob.add _, by simp; omega, h.len⟩
  · exact h

section
variable {w0 : World} {F0 : List Nat} {hb : Nat} {ws : List Int} {kd : List PK} {ds : List (Int × List Int)}
theorem Has.ptrs {w : World} (h : Has w0 F0 (heapA hb ws kd ds) w) : ∃ sb tb, w.cell? ⟨hb, 0, none⟩ = some (.pointer (some ⟨sb, 0, none⟩)) ∧ w.cell? ⟨hb, 1, none⟩ = some (.pointer (some ⟨tb, 0, none⟩)) := by
  obtain ⟨sb, tb, hr⟩ := h.raw
  exact ⟨sb, tb, hr.cells.1, hr.cells.2.1⟩
theorem ptr_eq {a b : Nat} (e : some (Value.pointer (some ⟨a, 0, none⟩)) = some (.pointer (some ⟨b, 0, none⟩))) : a = b := by
  injection e with e; injection e with e; injection e with e; injection e
theorem ofind (sb : Nat) (a : Int) (w : World) (h : Has w0 F0 (heapA hb ws kd ds) w) (ht : w.cell? ⟨hb, 0, none⟩ = some (.pointer (some ⟨sb, 0, none⟩))) :
    Calls Try.prog 48 #[.pointer (some ⟨sb, 0, none⟩), .int .i64 a] w fun e w' => e = .returned (foundV (findI kd a)) ∧ Keep [] w w' := by
  obtain ⟨sb', tb, hr⟩ := h.raw
  have e := hr.cells.1
  rw [ht] at e
  obtain rfl := ptr_eq e
  exact xfind w a hr h.fine.wf
end

theorem awake_each : (eachK ((freshK 2).set 1 (.small 0 ((offs (roomOf 0)).set 0 true)))).length = 1 := by decide +kernel
theorem block2 : blockI 2 = (2 : Nat) := by decide
end Go.Proofs.Ytamcoejlghfleaa

/-
  Made and awake of gloaminglaw13: references over a heap with some objects of numbers, and queues.
-/
namespace Go.Proofs.Ytamcoejlghfleaa
open Go.RowKit

theorem Try.infoInt13 : (Try.prog.info? 3).map (fun i => (i.zero, i.size, i.bytes)) = some (some (.int .i64 0), 1, 8) := by kernel_rfl

set_option maxRecDepth 100000 in
set_option maxHeartbeats 6400000 in
theorem made13 (n N k : Nat) {W : Nat → List Int} {K : Nat → List PK} {A : Nat → Nat} (hC : DChain N W K A) (hn : n ≤ N) (hN : N ≤ 30) (hk : k ≤ 8) (w : World) :
    Calls Try.prog 8 #[.int .i64 n, .int .i64 k] w fun e w' => ∃ hb pb qb la lc, e = .returned (.tuple #[.pointer (some ⟨hb, 0, none⟩), .pointer (some ⟨pb, 0, none⟩), .slice la n lc]) ∧ Has w [] ((prefA pb qb hb 0 (W n) (K n) [] (nQ k)).star (listA la (aL A n))) w' := by
  obtain ⟨i0, hi, hz0, hz1, hz2⟩ := info_parts Try.infoInt13
  have hI : Hid (Try.prog.info? 3 = some i0 ∧ i0.zero = some (.int .i64 0) ∧ i0.size = 1 ∧ i0.bytes = 8) := ⟨hi, hz0, hz1, hz2⟩
  clear hi hz0 hz1 hz2
  have HC := hid hC
  clear hC
  go_enter Try.func8, Try.ntmps8
  go_wp2_with fail
  refine (onew_has 40 _ (by omega) (by omega)).mono ?_
  rintro e w1 ⟨hb, rfl, hH⟩
  have HH := (show Hid (Has w [] (heapA hb (zeros (64 * 40)) (freshK 40) []) w1) from hH)
  clear hH
  go_wp2_with (first | (go_at_call 22; refine (owhole _ HH.out).mono ?_; rintro e w' ⟨rfl, rfl⟩) | (go_at_call 10; refine (err_any _ _).mono ?_; rintro e w' ⟨rfl, rfl⟩))
  refine (pnew _ HH.out).mono ?_
  rintro e w2 ⟨pb, qb, rfl, hP⟩
  have HX0 := (show Hid (Has w [] ((prefA pb qb hb 0 (W 0) (K 0) [] (nQ 0)).star (ownA 3 none 0 0 (aL A 0))) w2) from by
    show Has _ _ _ _
    rw [HC.out.w0, HC.out.k0]
    exact Has.ownNew 3 hP)
  obtain ⟨c0, _, _, _⟩ := hP.pcells
  clear HH hP
  go_wp2_with fail
  clear c0
  go_loopw [10, 11] (fun l i wr => ∃ (j : Nat) (la : Option Addr) (lc : Nat), l = .slice la j lc ∧ i = .int .i64 j ∧ j ≤ n ∧ Hid (Has w [] ((prefA pb qb hb 0 (W j) (K j) [] (nQ 0)).star (ownA 3 la j lc (aL A j))) wr)) (fun _ i _ => n - (intOf i).toNat)
  case atStart => exact ⟨0, none, 0, rfl, rfl, by omega, HX0⟩
  case round =>
    obtain ⟨j, la, lc, rfl, rfl, hj, HX⟩ := hrel
    obtain ⟨w3, rfl⟩ : ∃ w3, w3 = wr := ⟨_, rfl⟩
    clear HX0
    by_cases hlt : j < n
    · have hd : decide (j < n) = true := decide_eq_true hlt
      have HT := hid (HC.out.step j (by omega))
      obtain ⟨a, ha⟩ : ∃ a, A j = a := ⟨_, rfl⟩
      have hab := HC.out.bd j (by omega)
      rw [ha] at HT hab
      have HL := (show Hid (aL A (j + 1) = aL A j ++ [(a : Int)]) from by show _ = _; rw [aL_snoc, ha])
      clear ha
      go_wp2_with (first | (go_at_call 23; refine (has_left HX.out (fun F hF => has_pheap hF (fun F hF => omake 3 0 2 a 0 false _ _ _ hF HT.out))).mono ?_; rintro e w4 ⟨rfl, hX3⟩; have HX3 := hid hX3; clear hX3) | (go_at_call 10; refine (err_any _ _).mono ?_; rintro e w' ⟨rfl, rfl⟩) | (at_builtin; refine wpList_append_lies _ rfl (.tmp 52) (.tmp 54) 24 rfl 0 3 i0 (.int .i64 0) 1 8 Try.underlying24 hI.out.1 hI.out.2.1 hI.out.2.2.1 hI.out.2.2.2 rfl (by decide) _ j (ints (aL A j)) rfl (HX3.out.snd.own.alloc _) ⟨w4.heap.size, 0, none⟩ 1 1 (ints [(a : Int)]) rfl rfl (one_cell _ _ _) (ints_one _) (by omega) (by unfold maxLen; omega) (by omega) (by omega) (w4.heap.size + 1) (by simp) ?_; intro ga ca7 w7 hown7 hgrow7 hblk7 hlt7; rw [ints_app] at hown7; have HX7 := (show Hid (Has w [] ((prefA pb qb hb 0 (W (j + 1)) (K (j + 1)) [] (nQ 0)).star (ownA 3 (some ⟨ga, 0, none⟩) (j + 1) ca7 (aL A (j + 1)))) w7) from by show Has _ _ _ _; rw [HL.out]; exact (HX3.out.keep0 (Keep.alloc [] _ _)).ownMore hown7 hgrow7 hblk7 (by simp) hlt7); clear hown7 hgrow7 hblk7 hlt7))
      go_roundw
      case rel => exact ⟨j + 1, some ⟨ga, 0, none⟩, ca7, by rfl, by go_num, by omega, HX7⟩
      case measure => simp [intOf]; omega
    · obtain rfl : j = n := by omega
      have HX1 := (show Hid (Has w [] ((prefA pb qb hb 0 (W j) (K j) [] (nQ 0)).star (listA la (aL A j))) w3) from (HX.out.comm.map (fun F g => by
        obtain ⟨F1, F2, hF, h1, h2, hd⟩ := g
        exact ⟨F1, F2, hF, ⟨h1.1, (own_at h1.2.1 (HC.out.aBd j hn)).1, h1.2.2⟩, h2, hd⟩)).comm)
      clear HX hlt
      go_wp2_with fail
      go_loopw [14] (fun i wr => ∃ t : Nat, i = .int .i64 t ∧ t ≤ k ∧ Hid (Has w [] ((prefA pb qb hb 0 (W j) (K j) [] (nQ t)).star (listA la (aL A j))) wr)) (fun i _ => k - (intOf i).toNat)
      case atStart => exact ⟨0, rfl, by omega, HX1⟩
      case round =>
        obtain ⟨t, rfl, ht, HX⟩ := hrel
        obtain ⟨w5, rfl⟩ : ∃ w5, w5 = wr := ⟨_, rfl⟩
        clear HX1
        by_cases hlt : t < k
        · have hd : decide (t < k) = true := decide_eq_true hlt
          obtain ⟨c0, _, _, _⟩ := HX.out.fst.pcells
          go_wp2_with fail
          refine (has_left HX.out (fun F hF => has_pqueue hF (fun F hF => qopen_yes _ hF (by rw [nQ_length]; omega)))).mono ?_
          rintro e w6 ⟨rfl, hX6⟩
          rw [nQ_more] at hX6
          go_wp2_with fail
          go_roundw
          case rel => exact ⟨t + 1, by go_num, by omega, hX6⟩
          case measure => simp [intOf]; omega
        · obtain rfl : t = k := by omega
          go_wp2_with fail
          go_ret3
          exact ⟨hb, pb, qb, la, lc, rfl, HX.out⟩

set_option maxRecDepth 100000 in
set_option maxHeartbeats 3200000 in
theorem awake13_any (w : World) :
    Calls Try.prog 15 #[] w fun e w' => e = .returned (.bool true) ∧ Keep [] w w' := by
  obtain ⟨W, K, A, hC⟩ := dchain_ex 1 (by omega)
  have HC := hid hC
  have hst := hC.st (fun _ => 3) (fun _ => (A 0 : Int)) (fun _ => 1)
  have hd0 := hst.objs 0 (by rw [aL_length]; omega)
  rw [aL_get A 1 0 (by omega)] at hd0
  obtain ⟨b, ws, kd, hT, hst2, hR, _, hb1, hb2⟩ := hst.refer (n := 1) (S := 0) (s := 3) (a := (A 0 : Int)) (qq := 0) (t := 5) (by omega) (by omega) (by omega) (by omega) (by omega) (by omega) hd0 (by omega) ⟨by omega, by omega⟩ ⟨by omega, by omega⟩ rfl rfl rfl
  have HT := hid hT
  have HRD := (show Hid (ReadT kd ws (b : Int) 9 0 0 ws) from .ph b rfl hR.ref)
  obtain ⟨a0, ha0⟩ : ∃ a, A 0 = a := ⟨_, rfl⟩
  have hab := hC.bd 0 (by omega)
  rw [ha0] at HT hab
  have HA0 := hid ha0
  clear hC hst hd0 hT hst2 hR ha0
  go_enter Try.func15, Try.ntmps15
  go_wp2_with fail
  refine (made13 1 1 1 HC.out (by omega) (by omega) (by omega) _).mono ?_
  rintro e w1 ⟨hb, pb, qb, la, lc, rfl, hX⟩
  have HX := hid hX
  clear hX
  obtain ⟨lb, lo, rfl, _, hcs⟩ := HX.out.snd.list.cells (by rw [aL_length]; omega)
  have hc0 := hcs 0 (by rw [aL_length]; omega)
  rw [aL_get A 1 0 (by omega), HA0.out, Nat.add_zero] at hc0
  clear hcs
  go_wp2_with fail
  refine (prefer 1 3 a0 0 5 b 0 1 ws kd _ HX.out.fst (nQ_length 1) HT.out ⟨by omega, by omega⟩ ⟨by omega, by omega⟩ (by omega)).mono ?_
  rintro e w2 ⟨rfl, hX2⟩
  have HX2 := hid hX2
  clear hX2 HX hc0
  go_wp2_with fail
  refine (pread b 9 0 0 ws _ HX2.out HRD.out ⟨by omega, by omega⟩).mono ?_
  rintro e w3 ⟨rfl, hX3⟩
  have HX3 := hid hX3
  clear hX3 HX2
  go_wp2_with (first | (go_at_call 10; refine (err_any _ _).mono ?_; rintro e w' ⟨rfl, rfl⟩) | (go_at_call 17; refine (pserial _ HX3.out).mono ?_; rintro e w' ⟨rfl, rfl⟩))
  go_ret
  exact ⟨rfl, HX3.out.K⟩

end Go.Proofs.Ytamcoejlghfleaa
