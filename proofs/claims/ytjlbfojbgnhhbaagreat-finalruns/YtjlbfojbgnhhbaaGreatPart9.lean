/-
  Contracts of what the statement calls, one text behind the other (QueueM, RefM, FinSt, Clones, Sets, Dels, DelF, Fin, Made15, Calls15).
-/
import Derived.Test.YtjlbfojbgnhhbaaGreatPart7
import Derived.Test.YtjlbfojbgnhhbaaGreatPart8
import Derived.Test.YtjlbfojbgnhhbaaGreatRows
import Derived.Test.YtjlbfojbgnhhbaaGreatPart2
import Derived.Shelf.Slices.Clone
import Derived.Maps.OwnSet
import Derived.Shelf.Slices.Delete
import Derived.Lib.SliceRun
import Derived.Test.YtjlbfojbgnhhbaaGreatPart6

/-
  References in rows: what a push and a poll leave of the words, and of each reference. Plain facts.
-/
namespace Go.Proofs.YtjlbfojbgnhhbaaGreat
open Go.RowKit

/-- A reference lies at a. -/
def RefA (kd : List PK) (ws : List Int) (a : Nat) : Prop := ∃ (m : Nat) (c : Int), At kd ws (a : Nat) a m 4 c 5 false
section
variable {kd : List PK} {ws : List Int} {ds : List (Int × List Int)} {a b : Nat} {x : Int}
theorem RefA.head (h : RefA kd ws a) : ∃ c, HeadT kd ws a 4 c 5 false 0 := by obtain ⟨m, c, h⟩ := h; exact ⟨c, .yes a m 4 c 5 false h⟩
theorem at_room {k c l : Int} {m : Nat} {f : Bool} (hf : Fine ws kd ds) (h : At kd ws (a : Nat) a m k c l f) : l + 1 ≤ m := by
  obtain ⟨k', c', l', f', g1, g2, _⟩ := hf.ob.head a m h.2.1
  obtain ⟨_, _, _, _, p3, _⟩ := g1.parts
  obtain ⟨_, _, _, _, q3, _⟩ := h.2.2.parts
  have : l = l' := by rw [← p3, ← q3]
  omega
theorem RefA.place (hf : Fine ws kd ds) (h : RefA kd ws a) : PlaceT kd ws a 2 (a + 3) 0 ∧ a + 3 < ws.length ∧ 64 ≤ a := by
  obtain ⟨m, c, h⟩ := h
  have h1 := at_room hf h
  have h2 := h.facts hf.wf
  have h3 := hf.len
  exact ⟨.yes a m 2 4 c 5 false h rfl (by omega) h1, by omega, h2.2.1⟩
theorem RefA.put (hf : Fine ws kd ds) (h : RefA kd ws a) (x : Int) : PutT kd ws a 2 x 0 (ws.set (a + 3) x) := .yes (a + 3) (h.place hf).1 (h.place hf).2.1
theorem RefA.link (hf : Fine ws kd ds) (h : RefA kd ws a) (x : Int) : LinkT kd ws a x (ws.set (a + 3) x) := by
  have hp := h.put hf x
  obtain ⟨m, c, h⟩ := h
  exact .yes a m c 5 0 false _ h hp
theorem RefA.fineSet (hf : Fine ws kd ds) (h : RefA kd ws a) (hx : inI x) : Fine (ws.set (a + 3) x) kd ds := (h.put hf x).fine hf hx
theorem RefA.field (hf : Fine ws kd ds) (h : RefA kd ws a) : FieldT kd ws a 2 (ws[a + 3]?.getD 0) 0 := .yes (a + 3) (h.place hf).1 (h.place hf).2.1
/-- What else there is stays as it was. -/
theorem at_kept {y k c l : Int} {p m : Nat} {f : Bool} (hf : Fine ws kd ds) (h : RefA kd ws a) (hA : At kd ws y p m k c l f) (x : Int) : At kd (ws.set (a + 3) x) y p m k c l f := by
  obtain ⟨m', c', h⟩ := h
  have h1 := at_room hf h
  refine ⟨hA.1, hA.2.1, ?_⟩
  rw [set_get_other _ _ _ _ (fun e => ?_)]
  · exact hA.2.2
  · obtain ⟨g1, g2, _⟩ := hf.wf.found hA.2.1
    have := hf.wf.apart h.2.1 hA.2.1 (x := p) (by omega) (by omega) g1 g2
    omega
theorem RefA.kept (hf : Fine ws kd ds) (h : RefA kd ws a) (hb : RefA kd ws b) (x : Int) : RefA kd (ws.set (a + 3) x) b := by
  obtain ⟨m, c, hb⟩ := hb
  exact ⟨m, c, at_kept hf h hb x⟩
theorem at_back {y k c l : Int} {p m : Nat} {f : Bool} (hf : Fine ws kd ds) (h : RefA kd ws a) (hA : At kd (ws.set (a + 3) x) y p m k c l f) : At kd ws y p m k c l f := by
  obtain ⟨m', c', h⟩ := h
  have h1 := at_room hf h
  refine ⟨hA.1, hA.2.1, ?_⟩
  have h3 := hA.2.2
  rw [set_get_other _ _ _ _ (fun e => ?_)] at h3
  · exact h3
  · obtain ⟨g1, g2, _⟩ := hf.wf.found hA.2.1
    have := hf.wf.apart h.2.1 hA.2.1 (x := p) (by omega) (by omega) g1 g2
    omega
theorem RefA.inI (hf : Fine ws kd ds) (h : RefA kd ws a) : inI (a : Int) := by
  obtain ⟨m, c, h⟩ := h
  have := h.facts hf.wf
  unfold Go.Proofs.YtjlbfojbgnhhbaaGreat.inI
  omega
end
theorem set_back {Ls : List (List Int)} {j : Nat} {L L' : List Int} (h : Ls[j]? = some L) : (Ls.set j L').set j L = Ls := by
  rw [List.set_set]
  apply List.ext_getElem?
  intro i
  by_cases e : j = i
  · subst e
    have hj : j < Ls.length := by
      rcases Nat.lt_or_ge j Ls.length with e | e
      · exact e
      · rw [List.getElem?_eq_none e] at h; cases h
    rw [List.getElem?_set_self hj, h]
  · rw [List.getElem?_set_ne e]
theorem set_at {Ls : List (List Int)} {j : Nat} {L : List Int} (h : j < Ls.length) : (Ls.set j L)[j]? = some L := List.getElem?_set_self h

section
variable {kd : List PK} {ws : List Int} {ds : List (Int × List Int)} {Ls : List (List Int)} {a : Nat}
theorem RefA.pushFirst (hf : Fine ws kd ds) (h : RefA kd ws a) {j : Nat} (hL : Ls[j]? = some []) : PushT kd ws Ls (j : Int) (a : Int) 0 (ws.set (a + 3) 0) (Ls.set j [(a : Int)]) := by
  have hl := h.link hf 0
  obtain ⟨m, c, h⟩ := h
  exact .first j a m c 5 false _ rfl hL h hl
theorem RefA.pushMore (hf : Fine ws kd ds) (h : RefA kd ws a) {j y : Nat} {L : List Int} (hL : Ls[j]? = some (L ++ [(y : Int)])) (hy : RefA kd ws y) : PushT kd ws Ls (j : Int) (a : Int) 0 ((ws.set (y + 3) (a : Int)).set (a + 3) 0) (Ls.set j (L ++ [(y : Int)] ++ [(a : Int)])) := by
  have hl := hy.link hf (a : Int)
  have h2 := (hy.kept hf h (a : Int)).link (hy.fineSet hf (h.inI hf)) 0
  obtain ⟨m, c, h⟩ := h
  exact .more j a m c 5 (y : Int) false L _ _ rfl hL h hl h2
theorem RefA.poll (hf : Fine ws kd ds) (h : RefA kd ws a) {j : Nat} {L : List Int} (hL : Ls[j]? = some ((a : Int) :: L)) : PollT kd ws Ls (j : Int) (a : Int) 0 (ws.set (a + 3) 0) (Ls.set j L) :=
  .yes j (a : Int) L _ rfl hL (h.link hf 0)
end

end Go.Proofs.YtjlbfojbgnhhbaaGreat

/-
  References: what each call answers and leaves, whatever is asked. Plain facts.
-/
namespace Go.Proofs.YtjlbfojbgnhhbaaGreat
open Go.RowKit

/-- A word within a block, behind its head. -/
def Inner (kd : List PK) (p : Nat) : Prop := ∃ a m, findN kd a = some (a, m) ∧ a < p ∧ p < a + m
section
variable {kd : List PK} {ws : List Int} {ds : List (Int × List Int)} {p : Nat} {x : Int}
theorem Inner.ne (h : Inner kd p) (hw : WF kd) {q m : Nat} (hq : findN kd q = some (q, m)) : p ≠ q := by
  obtain ⟨a, n, h1, h2, h3⟩ := h
  rintro rfl
  obtain ⟨g1, g2, _⟩ := hw.found hq
  have := hw.apart h1 hq (x := p) (by omega) h3 g1 g2
  omega
theorem Inner.at' (h : Inner kd p) (hw : WF kd) {y k c l : Int} {q m : Nat} {f : Bool} : At kd (ws.set p x) y q m k c l f ↔ At kd ws y q m k c l f := by
  constructor
  · rintro ⟨e1, e2, e3⟩
    rw [set_get_other _ _ _ _ (h.ne hw e2)] at e3
    exact ⟨e1, e2, e3⟩
  · rintro ⟨e1, e2, e3⟩
    refine ⟨e1, e2, ?_⟩
    rw [set_get_other _ _ _ _ (h.ne hw e2)]
    exact e3
theorem Inner.head (h : Inner kd p) (hw : WF kd) {a k c l E : Int} {f : Bool} (hT : HeadT kd ws a k c l f E) : HeadT kd (ws.set p x) a k c l f E := by
  cases hT with
  | no hn => exact .no hn
  | yes b m k c l f hA => exact .yes b m k c l f ((h.at' hw).2 hA)
theorem Inner.fine (h : Inner kd p) (hf : Fine ws kd ds) (hx : inI x) : Fine (ws.set p x) kd ds := by
  obtain ⟨a, m, h1, h2, h3⟩ := h
  exact ⟨hf.wf, hf.ob.field hf.wf h1 h2 h3 x hx, hf.few, by rw [List.length_set]; exact hf.len⟩
theorem Inner.lt (h : Inner kd p) (hf : Fine ws kd ds) : p < ws.length := by
  obtain ⟨a, m, h1, h2, h3⟩ := h
  have := hf.wf.found h1
  have := hf.len
  omega
end

/-- A reference of class c lies at b. -/
def RefC (kd : List PK) (ws : List Int) (b : Nat) (c : Int) : Prop := ∃ m, At kd ws (b : Nat) b m 4 c 5 false
section
variable {kd : List PK} {ws : List Int} {ds : List (Int × List Int)} {p b b' : Nat} {x c c' : Int}
theorem RefC.refA (h : RefC kd ws b c) : RefA kd ws b := by obtain ⟨m, h⟩ := h; exact ⟨m, c, h⟩
theorem RefA.refC (h : RefA kd ws b) : ∃ c, RefC kd ws b c := by obtain ⟨m, c, h⟩ := h; exact ⟨c, m, h⟩
theorem RefC.headT (h : RefC kd ws b c) : HeadT kd ws b 4 c 5 false 0 := by obtain ⟨m, h⟩ := h; exact .yes b m 4 c 5 false h
theorem RefC.cls (h : RefC kd ws b c) : 1 ≤ c ∧ c ≤ 3 := by
  obtain ⟨m, h⟩ := h
  have h3 := h.2.2.1
  rw [mayH_4] at h3
  simp [inB] at h3
  exact h3
theorem refC_of_at {k l : Int} {m : Nat} {f : Bool} (h : At kd ws x b m k c l f) (hk : k = 4) : x = (b : Int) ∧ RefC kd ws b c ∧ l = 5 ∧ f = false := by
  subst hk
  obtain ⟨e, h1, h2⟩ := h
  have h3 := h2.1
  rw [mayH_4] at h3
  simp [inB] at h3
  obtain ⟨hf, _, hl⟩ := h3
  have hl5 : l = 5 := by omega
  subst hl5
  subst hf
  exact ⟨e, ⟨m, rfl, h1, h2⟩, rfl, rfl⟩
theorem RefC.room (h : RefC kd ws b c) (hf : Fine ws kd ds) : ∃ m, findN kd b = some (b, m) ∧ 6 ≤ m ∧ 64 ≤ b ∧ b + m ≤ ws.length ∧ ws.length ≤ 16384 := by
  obtain ⟨m, h⟩ := h
  have h1 := at_room hf h
  have h2 := h.facts hf.wf
  have h3 := hf.len
  exact ⟨m, h.2.1, by omega, h2.2.1, by omega, by omega⟩
theorem RefC.inner (h : RefC kd ws b c) (hf : Fine ws kd ds) (i : Nat) (hi : i < 5) : Inner kd (b + 1 + i) := by
  obtain ⟨m, h1, h2, _⟩ := h.room hf
  exact ⟨b, m, h1, by omega, by omega⟩
theorem RefC.inI (h : RefC kd ws b c) (hf : Fine ws kd ds) : inI (b : Int) := h.refA.inI hf
theorem RefC.place (h : RefC kd ws b c) (hf : Fine ws kd ds) (i : Nat) (hi : i < 5) : PlaceT kd ws b i (b + 1 + i) 0 := by
  obtain ⟨m, h⟩ := h
  have h1 := at_room hf h
  exact .yes b m i 4 c 5 false h rfl (by omega) h1
theorem RefC.put (h : RefC kd ws b c) (hf : Fine ws kd ds) (i : Nat) (hi : i < 5) (x : Int) : PutT kd ws b i x 0 (ws.set (b + 1 + i) x) := .yes (b + 1 + i) (h.place hf i hi) ((h.inner hf i hi).lt hf)
theorem RefC.field (h : RefC kd ws b c) (hf : Fine ws kd ds) (i : Nat) (hi : i < 5) : FieldT kd ws b i (ws[b + 1 + i]?.getD 0) 0 := .yes (b + 1 + i) (h.place hf i hi) ((h.inner hf i hi).lt hf)
theorem RefC.set (h : RefC kd ws b c) (hw : WF kd) (hp : Inner kd p) (x : Int) : RefC kd (ws.set p x) b c := by
  obtain ⟨m, h⟩ := h
  exact ⟨m, (hp.at' hw).2 h⟩
theorem RefC.unset (h : RefC kd (ws.set p x) b c) (hw : WF kd) (hp : Inner kd p) : RefC kd ws b c := by
  obtain ⟨m, h⟩ := h
  exact ⟨m, (hp.at' hw).1 h⟩
theorem RefA.set (h : RefA kd ws b) (hw : WF kd) (hp : Inner kd p) (x : Int) : RefA kd (ws.set p x) b := by
  obtain ⟨c, h⟩ := h.refC
  exact (h.set hw hp x).refA
/-- Fields of two references are two words. -/
theorem RefC.apart (h : RefC kd ws b c) (h' : RefC kd ws b' c') (hf : Fine ws kd ds) {i j : Nat} (hi : i < 5) (hj : j < 5) (e : b + 1 + i = b' + 1 + j) : b = b' ∧ i = j := by
  obtain ⟨m, h1, h2, _⟩ := h.room hf
  obtain ⟨m', h1', h2', _⟩ := h'.room hf
  have := hf.wf.apart h1 h1' (x := b + 1 + i) (by omega) (by omega) (by omega) (by omega)
  omega
end

/-- What there is at a: a reference of a class, or none. -/
inductive StrT (kd : List PK) (ws : List Int) (a : Int) : Int → Prop
  | no (k c l E : Int) (f : Bool) : HeadT kd ws a k c l f E → k ≠ 4 → StrT kd ws a 0
  | yes (b : Nat) (c : Int) : a = b → RefC kd ws b c → StrT kd ws a c
/-- Refer's errors but those of room. -/
inductive MayT (kd : List PK) (ws : List Int) (n : Nat) (s a q : Int) : Int → Prop
  | str : ¬ (1 ≤ s ∧ s ≤ 3) → MayT kd ws n s a q 1
  | none : 1 ≤ s → s ≤ 3 → ¬ (-1 ≤ q ∧ q < n) → MayT kd ws n s a q 2
  | ph : s = 3 → q = -1 → MayT kd ws n s a q 1
  | head (k c l E : Int) (f : Bool) : 1 ≤ s → s ≤ 3 → -1 ≤ q → q < n → ¬ (s = 3 ∧ q = -1) → HeadT kd ws a k c l f E → MayT kd ws n s a q E
/-- What a new reference's words are. -/
def madeW (ws : List Int) (b : Nat) (a q t u : Int) : List Int := (((ws.set (b + 1) a).set (b + 2) (q + 1)).set (b + 4) t).set (b + 5) u
/-- What Refer answers and leaves. -/
inductive ReferT (kd : List PK) (ws : List Int) (ds : List (Int × List Int)) (n : Nat) (S s a q t : Int) : Int → Int → List Int → List PK → Int → Prop
  | may (E : Int) : MayT kd ws n s a q E → E ≠ 0 → ReferT kd ws ds n S s a q t 0 E ws kd S
  | full (E : Int) : MayT kd ws n s a q 0 → MakeT kd ws ds 4 s 5 false 0 E ws kd → E ≠ 0 → ReferT kd ws ds n S s a q t 0 E ws kd S
  | yes (b : Nat) (ws1 : List Int) (kd' : List PK) : MayT kd ws n s a q 0 → MakeT kd ws ds 4 s 5 false b 0 ws1 kd' → RefC kd' ws1 b s → ReferT kd ws ds n S s a q t b 0 (madeW ws1 b a q t (S + 1)) kd' (S + 1)
/-- What Referent answers and leaves. -/
inductive ReadT (kd : List PK) (ws : List Int) (a t : Int) : Int → Int → List Int → Prop
  | kind : StrT kd ws a 0 → ReadT kd ws a t 0 5 ws
  | ph (b : Nat) : a = b → RefC kd ws b 3 → ReadT kd ws a t 0 0 ws
  | plain (b : Nat) (c N : Int) : a = b → RefC kd ws b c → c ≠ 3 → ws[b + 1]?.getD 0 = N → c ≠ 1 ∨ N = 0 → ReadT kd ws a t N 0 ws
  | soft (b : Nat) (N : Int) : a = b → RefC kd ws b 1 → ws[b + 1]?.getD 0 = N → N ≠ 0 → ReadT kd ws a t N 0 (ws.set (b + 4) t)
/-- Words, the first n of a list cleared. -/
def clrN (ws L : List Int) : Nat → List Int
  | 0 => ws
  | n + 1 => (clrN ws L n).set ((L[n]?.getD 0).toNat + 1) 0
/-- What Clear answers and leaves. -/
inductive ClearT (kd : List PK) (ws L : List Int) : Int → List Int → Prop
  | kind (j : Nat) : j < L.length → (∀ i, i < j → ∃ (b : Nat) (c : Int), L[i]?.getD 0 = b ∧ RefC kd ws b c) → StrT kd ws (L[j]?.getD 0) 0 → ClearT kd ws L 5 ws
  | yes : (∀ i, i < L.length → ∃ (b : Nat) (c : Int), L[i]?.getD 0 = b ∧ RefC kd ws b c) → ClearT kd ws L 0 (clrN ws L L.length)
/-- What Enqueue answers and leaves. -/
inductive EnqT (kd : List PK) (ws : List Int) (Ls : List (List Int)) (a : Int) : Bool → Int → List Int → List (List Int) → Prop
  | kind : StrT kd ws a 0 → EnqT kd ws Ls a false 5 ws Ls
  | no (b : Nat) (c : Int) : a = b → RefC kd ws b c → ws[b + 2]?.getD 0 < 1 → EnqT kd ws Ls a false 0 (ws.set (b + 1) 0) Ls
  | yes (b : Nat) (c x E : Int) (ws' : List Int) (Ls' : List (List Int)) : a = b → RefC kd ws b c → ws[b + 2]?.getD 0 = x → 1 ≤ x → PushT kd (ws.set (b + 1) 0) Ls (x - 1) b E ws' Ls' → RefC kd ws' b c → EnqT kd ws Ls a true 0 (ws'.set (b + 2) (-1)) Ls'

section
variable {kd kd' : List PK} {ws ws' : List Int} {ds : List (Int × List Int)} {a : Int}
theorem strT_ex (hf : Fine ws kd ds) (a : Int) : ∃ c, StrT kd ws a c := by
  rcases at_or hf.ob a with ⟨b, m, k, c, l, f, hA, _⟩ | hn
  · by_cases hk : k = 4
    · obtain ⟨e, h, _⟩ := refC_of_at hA hk
      exact ⟨c, .yes b c e h⟩
    · exact ⟨0, .no k c l 0 f (.yes b m k c l f hA) hk⟩
  · exact ⟨0, .no 0 0 0 2 false (.no hn) (by omega)⟩
theorem StrT.or {c : Int} (h : StrT kd ws a c) : StrT kd ws a 0 ∨ ∃ b : Nat, a = b ∧ RefC kd ws b c := by
  cases h with
  | no k c l E f h hk => exact .inl (.no k c l E f h hk)
  | yes b c e h => exact .inr ⟨b, e, h⟩
theorem mayT_ex (hf : Fine ws kd ds) (n : Nat) (s a q : Int) : ∃ E, MayT kd ws n s a q E := by
  by_cases h1 : 1 ≤ s ∧ s ≤ 3
  · by_cases h2 : -1 ≤ q ∧ q < n
    · by_cases h3 : s = 3 ∧ q = -1
      · exact ⟨_, .ph h3.1 h3.2⟩
      · obtain ⟨k, c, l, f, E, hT⟩ := headT_ex hf.ob a
        exact ⟨_, .head k c l E f h1.1 h1.2 h2.1 h2.2 h3 hT⟩
    · exact ⟨_, .none h1.1 h1.2 h2⟩
  · exact ⟨_, .str h1⟩
theorem MayT.zero {n : Nat} {s a q : Int} (h : MayT kd ws n s a q 0) : 1 ≤ s ∧ s ≤ 3 ∧ -1 ≤ q ∧ q < n := by
  cases h with
  | head k c l E f h1 h2 h3 h4 _ _ => exact ⟨h1, h2, h3, h4⟩
theorem mayH_ref {s : Int} (h1 : 1 ≤ s) (h2 : s ≤ 3) : mayH 4 s 5 false = true := by
  rw [mayH_4, inB_yes h1 h2, inB_yes (by omega) (by omega)]; rfl
/-- A reference that was made lies there; what there was lies there yet. -/
theorem MakeT.ref {s : Int} {b : Nat} (h : MakeT kd ws ds 4 s 5 false b 0 ws' kd') (hf : Fine ws kd ds) : RefC kd' ws' b s ∧ Fine ws' kd' ds ∧ kd'.length = kd.length ∧
    (∀ (p m : Nat) (k c l : Int) (f : Bool), At kd ws p p m k c l f → At kd' ws' p p m k c l f ∧ (p + m ≤ b ∨ b + 6 ≤ p) ∧ ∀ i, i < m → ws'[p + i]?.getD 0 = ws[p + i]?.getD 0) ∧
    (∀ i, i < 5 → ws'[b + 1 + i]?.getD 0 = 0) := by
  obtain ⟨f1, l1⟩ := h.fine hf
  have hl := hf.len
  generalize hB : (b : Int) = B at h
  cases h with
  | fits E _ _ _ h0 => exact absurd rfl h0
  | yes a m kd' hm _ hF hr hb =>
    obtain rfl : a = b := by omega
    obtain ⟨b', hb', h1, h2, h3, h4, h5, h6, h7⟩ := hr.spec hf.wf
    obtain rfl : m = b' := by rw [hb] at hb'; omega
    have hat := MakeT.at hf.wf hf.len hm hr hb
    have hR : RefC kd' ((fill0 ws a m).set a (putH 4 s 5 false)) a s := ⟨m, hat⟩
    have hm6 : 6 ≤ m := by
      obtain ⟨m', g1, g2, _⟩ := hR.room f1
      rw [hat.2.1] at g1
      cases g1
      exact g2
    refine ⟨hR, f1, l1, fun p n k c l f hA => ?_, fun i hi => ?_⟩
    · obtain ⟨g1, g2⟩ := hA.made (x := putH 4 s 5 false) hf.wf hf.len hr hb
      refine ⟨g1, by omega, fun i hi => ?_⟩
      rw [set_get_other _ _ _ _ (by omega), fill0_get _ _ _ _ (by omega), if_neg (by omega)]
    · rw [set_get_other _ _ _ _ (by omega), fill0_get _ _ _ _ (by omega), if_pos (by omega)]
theorem referT_ex (hf : Fine ws kd ds) (n : Nat) (S s a q t : Int) : ∃ N E ws' kd' S', ReferT kd ws ds n S s a q t N E ws' kd' S' := by
  obtain ⟨E, hM⟩ := mayT_ex hf n s a q
  by_cases hE : E = 0
  · subst hE
    obtain ⟨h1, h2, _⟩ := hM.zero
    obtain ⟨N, E, ws', kd', hT⟩ := makeT_ex ws ds 4 s 5 false hf.wf
    have hT' := hT
    cases hT with
    | arg h => rw [mayH_ref h1 h2] at h; cases h
    | fits E _ _ h hE => exact ⟨_, _, _, _, _, .full E hM hT' hE⟩
    | full _ _ _ _ => exact ⟨_, _, _, _, _, .full 3 hM hT' (by omega)⟩
    | yes b m kd' _ _ _ _ _ => exact ⟨_, _, _, _, _, .yes b _ kd' hM hT' (hT'.ref hf).1⟩
  · exact ⟨_, _, _, _, _, .may E hM hE⟩
theorem readT_ex (hf : Fine ws kd ds) (a t : Int) : ∃ N E ws', ReadT kd ws a t N E ws' := by
  obtain ⟨c, hS⟩ := strT_ex hf a
  rcases hS.or with h | ⟨b, e, h⟩
  · exact ⟨_, _, _, .kind h⟩
  · by_cases h3 : c = 3
    · subst h3; exact ⟨_, _, _, .ph b e h⟩
    · by_cases h1 : c = 1 ∧ ws[b + 1]?.getD 0 ≠ 0
      · obtain ⟨rfl, h1⟩ := h1
        exact ⟨_, _, _, .soft b _ e h rfl h1⟩
      · exact ⟨_, _, _, .plain b c _ e h h3 rfl (by omega)⟩
theorem clearT_ex (hf : Fine ws kd ds) (L : List Int) : ∃ E ws', ClearT kd ws L E ws' := by
  have key : ∀ n, n ≤ L.length → (∃ j, j < L.length ∧ (∀ i, i < j → ∃ (b : Nat) (c : Int), L[i]?.getD 0 = b ∧ RefC kd ws b c) ∧ StrT kd ws (L[j]?.getD 0) 0) ∨ ∀ i, i < n → ∃ (b : Nat) (c : Int), L[i]?.getD 0 = b ∧ RefC kd ws b c := by
    intro n
    induction n with
    | zero => intro _; exact .inr (fun i hi => by omega)
    | succ n ih =>
      intro hn
      rcases ih (by omega) with h | h
      · exact .inl h
      · obtain ⟨c, hS⟩ := strT_ex hf (L[n]?.getD 0)
        rcases hS.or with h0 | ⟨b, e, h1⟩
        · exact .inl ⟨n, by omega, h, h0⟩
        · refine .inr (fun i hi => ?_)
          rcases Nat.lt_or_ge i n with g | g
          · exact h i g
          · obtain rfl : i = n := by omega
            exact ⟨b, c, e, h1⟩
  rcases key L.length (Nat.le_refl _) with ⟨j, h1, h2, h3⟩ | h
  · exact ⟨_, _, .kind j h1 h2 h3⟩
  · exact ⟨_, _, .yes h⟩
end

section
variable {kd kd' : List PK} {ws ws' L : List Int} {ds : List (Int × List Int)} {a : Int}
theorem Fine.inI (hf : Fine ws kd ds) (i : Nat) : inI (ws[i]?.getD 0) := hf.ob.bd i
/-- A new reference's words are put one by one. -/
theorem RefC.madeW {b : Nat} {c a q t u : Int} (h : RefC kd ws b c) (hf : Fine ws kd ds) (ha : Go.Proofs.YtjlbfojbgnhhbaaGreat.inI a) (hq : Go.Proofs.YtjlbfojbgnhhbaaGreat.inI (q + 1)) (ht : Go.Proofs.YtjlbfojbgnhhbaaGreat.inI t) (hu : Go.Proofs.YtjlbfojbgnhhbaaGreat.inI u) :
    PutT kd ws b 0 a 0 (ws.set (b + 1) a) ∧ PutT kd (ws.set (b + 1) a) b 1 (q + 1) 0 ((ws.set (b + 1) a).set (b + 2) (q + 1)) ∧ PutT kd ((ws.set (b + 1) a).set (b + 2) (q + 1)) b 3 t 0 (((ws.set (b + 1) a).set (b + 2) (q + 1)).set (b + 4) t) ∧
    PutT kd (((ws.set (b + 1) a).set (b + 2) (q + 1)).set (b + 4) t) b 4 u 0 (madeW ws b a q t u) ∧ Fine (madeW ws b a q t u) kd ds ∧ RefC kd (madeW ws b a q t u) b c := by
  have p0 := h.inner hf 0 (by omega)
  have p1 := h.inner hf 1 (by omega)
  have p3 := h.inner hf 3 (by omega)
  have p4 := h.inner hf 4 (by omega)
  have f1 := p0.fine hf ha
  have r1 := h.set hf.wf p0 a
  have f2 := p1.fine f1 hq
  have r2 := r1.set hf.wf p1 (q + 1)
  have f3 := p3.fine f2 ht
  have r3 := r2.set hf.wf p3 t
  exact ⟨h.put hf 0 (by omega) a, r1.put f1 1 (by omega) (q + 1), r2.put f2 3 (by omega) t, r3.put f3 4 (by omega) u, p4.fine f3 hu, r3.set hf.wf p4 u⟩
/-- Clearing, one by one. -/
theorem clrN_step (hf : Fine ws kd ds) (h : ∀ i, i < L.length → ∃ (b : Nat) (c : Int), L[i]?.getD 0 = b ∧ RefC kd ws b c) : ∀ n, n ≤ L.length → Fine (clrN ws L n) kd ds ∧ (∀ (b : Nat) (c : Int), RefC kd ws b c → RefC kd (clrN ws L n) b c) ∧ ∀ (q m : Nat) (y k c l : Int) (f : Bool), At kd ws y q m k c l f → At kd (clrN ws L n) y q m k c l f := by
  intro n
  induction n with
  | zero => intro _; exact ⟨hf, fun b c h => h, fun q m y k c l f h => h⟩
  | succ n ih =>
    intro hn
    obtain ⟨g1, g2, g3⟩ := ih (by omega)
    obtain ⟨b, c, e, hR⟩ := h n (by omega)
    have p0 := hR.inner hf 0 (by omega)
    have eb : (L[n]?.getD 0).toNat + 1 = b + 1 + 0 := by rw [e]; simp
    show Fine ((clrN ws L n).set ((L[n]?.getD 0).toNat + 1) 0) kd ds ∧ (∀ (b : Nat) (c : Int), RefC kd ws b c → RefC kd ((clrN ws L n).set ((L[n]?.getD 0).toNat + 1) 0) b c) ∧ ∀ (q m : Nat) (y k c l : Int) (f : Bool), At kd ws y q m k c l f → At kd ((clrN ws L n).set ((L[n]?.getD 0).toNat + 1) 0) y q m k c l f
    rw [eb]
    exact ⟨p0.fine g1 inI_0, fun b c h => (g2 b c h).set hf.wf p0 0, fun q m y k c l f h => (p0.at' hf.wf).2 (g3 q m y k c l f h)⟩
theorem clrN_put (hf : Fine ws kd ds) (h : ∀ i, i < L.length → ∃ (b : Nat) (c : Int), L[i]?.getD 0 = b ∧ RefC kd ws b c) (n : Nat) (hn : n < L.length) : PutT kd (clrN ws L n) (L[n]?.getD 0) 0 0 0 (clrN ws L (n + 1)) := by
  obtain ⟨g1, g2, _⟩ := clrN_step hf h n (by omega)
  obtain ⟨b, c, e, hR⟩ := h n hn
  show PutT kd (clrN ws L n) (L[n]?.getD 0) 0 0 0 ((clrN ws L n).set ((L[n]?.getD 0).toNat + 1) 0)
  rw [e]
  exact (g2 b c hR).put g1 0 (by omega) 0
/-- What clearing leaves of a word. -/
theorem clrN_get {p : Nat} (hp : ∀ i, i < L.length → (L[i]?.getD 0).toNat + 1 ≠ p) : ∀ n, n ≤ L.length → (clrN ws L n)[p]?.getD 0 = ws[p]?.getD 0 := by
  intro n
  induction n with
  | zero => intro _; rfl
  | succ n ih =>
    intro hn
    show ((clrN ws L n).set ((L[n]?.getD 0).toNat + 1) 0)[p]?.getD 0 = _
    rw [set_get_other _ _ _ _ (hp n (by omega)), ih (by omega)]
theorem ClearT.fine {E : Int} (h : ClearT kd ws L E ws') (hf : Fine ws kd ds) : Fine ws' kd ds := by
  cases h with
  | kind j _ _ _ => exact hf
  | yes h => exact (clrN_step hf h _ (Nat.le_refl _)).1
theorem ReadT.fine {t N E : Int} (h : ReadT kd ws a t N E ws') (hf : Fine ws kd ds) (ht : Go.Proofs.YtjlbfojbgnhhbaaGreat.inI t) : Fine ws' kd ds := by
  cases h with
  | kind _ => exact hf
  | ph b _ _ => exact hf
  | plain b c N _ _ _ _ _ => exact hf
  | soft b N e h _ _ => exact (h.inner hf 3 (by omega)).fine hf ht
end

end Go.Proofs.YtjlbfojbgnhhbaaGreat

/-
  Objects made one behind the other, whatever their heads, and what becomes of their heads when they are awaited. Plain facts.
-/
namespace Go.Proofs.YtjlbfojbgnhhbaaGreat
open Go.RowKit

theorem tmod_nat (a m : Nat) (hm : 0 < m) : ∃ q : Nat, (a : Int).tmod (m : Int) = q ∧ (a : Int) % (m : Int) = q ∧ q < m := by
  refine ⟨a % m, ?_, rfl, Nat.mod_lt _ hm⟩
  rw [Int.tmod_eq_emod_of_nonneg (by omega)]
  rfl
/-- The first n objects of a fresh heap: words, pages and addresses, one by one. -/
structure GChain (n : Nat) (kk cc ll : Nat → Int) (W : Nat → List Int) (K : Nat → List PK) (A : Nat → Nat) : Prop where
  w0 : W 0 = zeros (64 * 40)
  k0 : K 0 = freshK 40
  step : ∀ i, i < n → MakeT (K i) (W i) [] (kk i) (cc i) (ll i) false (A i : Int) 0 (W (i + 1)) (K (i + 1))
  fine : ∀ i, i ≤ n → Fine (W i) (K i) [] ∧ (K i).length = 40 ∧ FreeFrom (K i) (1 + i)
  objs : ∀ i, i ≤ n → ∀ j, j < i → ∃ m : Nat, At (K i) (W i) (A j : Nat) (A j) m (kk j) (cc j) (ll j) false
  ne : ∀ i j, i < n → j < n → A i = A j → i = j
theorem gchain_ex (kk cc ll : Nat → Int) (hk : ∀ i, mayH (kk i) (cc i) (ll i) false = true ∧ kk i ≠ 1 ∧ pagesI (ll i + 1) ≤ (1 : Nat)) (n : Nat) (hn : n ≤ 30) : ∃ W K A, GChain n kk cc ll W K A := by
  induction n with
  | zero =>
    refine ⟨fun _ => zeros (64 * 40), fun _ => freshK 40, fun _ => 0, rfl, rfl, fun i h => by omega, fun i h => ⟨Fine.fresh 40 (by omega) (by omega), freshK_length 40, ?_⟩, fun i h j hj => by omega, fun i j hi => by omega⟩
    exact (FreeFrom.fresh 40 (by omega)).mono (by omega)
  | succ n ih =>
    obtain ⟨W, K, A, hC⟩ := ih (by omega)
    obtain ⟨hf, hk40, hfree⟩ := hC.fine n (Nat.le_refl _)
    obtain ⟨hm, hne1, hpg⟩ := hk n
    obtain ⟨a, b, kd', t1, r1, e1, g1⟩ := make_from (kd := K n) (ds := []) (s := 1 + n) (K := 1) (W n) hf.wf hm (.other hne1) hpg (by omega) (by rw [hk40]; omega) hfree
    obtain ⟨f1, l1⟩ := t1.fine hf
    obtain ⟨ws', hws⟩ : ∃ ws', (fill0 (W n) a b).set a (putH (kk n) (cc n) (ll n) false) = ws' := ⟨_, rfl⟩
    have hat : At kd' ws' (a : Nat) a b (kk n) (cc n) (ll n) false := by rw [← hws]; exact MakeT.at hf.wf hf.len hm r1 e1
    have hold : ∀ (p m : Nat) (k c l : Int) (f : Bool), At (K n) (W n) (p : Nat) p m k c l f → At kd' ws' (p : Nat) p m k c l f := fun p m k c l f h => by rw [← hws]; exact (h.made hf.wf hf.len r1 e1).1
    have hnew : ∀ j, j < n → A j ≠ a := fun j hj e => by
      obtain ⟨m, hm⟩ := hC.objs n (Nat.le_refl _) j hj
      obtain ⟨_, _, _, _, h5, _⟩ := hm.facts hf.wf
      obtain ⟨_, _, _, _, h5', _⟩ := hat.facts f1.wf
      have := (hm.made (x := putH (kk n) (cc n) (ll n) false) hf.wf hf.len r1 e1).2
      omega
    rw [hws] at t1 f1
    have hW : ∀ i, i ≤ n → (if i ≤ n then W i else ws') = W i := fun i h => if_pos h
    have hK : ∀ i, i ≤ n → (if i ≤ n then K i else kd') = K i := fun i h => if_pos h
    have hA : ∀ i, i < n → (if i < n then A i else a) = A i := fun i h => if_pos h
    refine ⟨fun i => if i ≤ n then W i else ws', fun i => if i ≤ n then K i else kd', fun i => if i < n then A i else a, hC.w0, hC.k0, ?_, ?_, ?_, ?_⟩
    · intro i hi
      show MakeT (if i ≤ n then K i else kd') (if i ≤ n then W i else ws') [] (kk i) (cc i) (ll i) false ((if i < n then A i else a : Nat) : Int) 0 (if i + 1 ≤ n then W (i + 1) else ws') (if i + 1 ≤ n then K (i + 1) else kd')
      rcases Nat.lt_or_ge i n with h | h
      · rw [hW i (by omega), hK i (by omega), hA i h, hW (i + 1) (by omega), hK (i + 1) (by omega)]
        exact hC.step i h
      · obtain rfl : i = n := by omega
        rw [hW i (by omega), hK i (by omega), if_neg (by omega), if_neg (by omega), if_neg (by omega)]
        exact t1
    · intro i hi
      show Fine (if i ≤ n then W i else ws') (if i ≤ n then K i else kd') [] ∧ (if i ≤ n then K i else kd').length = 40 ∧ FreeFrom (if i ≤ n then K i else kd') (1 + i)
      rcases Nat.lt_or_ge n i with h | h
      · obtain rfl : i = n + 1 := by omega
        rw [if_neg (by omega), if_neg (by omega)]
        exact ⟨f1, by rw [l1, hk40], g1.mono (by omega)⟩
      · rw [hW i h, hK i h]
        exact hC.fine i h
    · intro i hi j hj
      show ∃ m : Nat, At (if i ≤ n then K i else kd') (if i ≤ n then W i else ws') ((if j < n then A j else a : Nat) : Int) (if j < n then A j else a) m (kk j) (cc j) (ll j) false
      rcases Nat.lt_or_ge n i with h | h
      · obtain rfl : i = n + 1 := by omega
        rw [if_neg (by omega), if_neg (by omega)]
        rcases Nat.lt_or_ge j n with hjn | hjn
        · rw [hA j hjn]
          obtain ⟨m, hm⟩ := hC.objs n (Nat.le_refl _) j hjn
          exact ⟨m, hold _ _ _ _ _ _ hm⟩
        · obtain rfl : j = n := by omega
          rw [if_neg (by omega)]
          exact ⟨b, hat⟩
      · rw [hW i h, hK i h, hA j (by omega)]
        exact hC.objs i h j hj
    · intro i j hi hj e
      show i = j
      have e' : (if i < n then A i else a) = (if j < n then A j else a) := e
      rcases Nat.lt_or_ge i n with h1 | h1
      · rcases Nat.lt_or_ge j n with h2 | h2
        · rw [if_pos h1, if_pos h2] at e'; exact hC.ne i j h1 h2 e'
        · rw [if_pos h1, if_neg (by omega)] at e'; exact absurd e' (hnew i h1)
      · rcases Nat.lt_or_ge j n with h2 | h2
        · rw [if_neg (by omega), if_pos h2] at e'; exact absurd e'.symm (hnew j h2)
        · omega

/-- n objects of one number, and a weak reference behind them. -/
def kkF (n : Nat) (i : Nat) : Int := if i = n then 4 else 3
def ccF (n : Nat) (i : Nat) : Int := if i = n then 2 else 0
def llF (n : Nat) (i : Nat) : Int := if i = n then 5 else 1
theorem headF (n i : Nat) : mayH (kkF n i) (ccF n i) (llF n i) false = true ∧ kkF n i ≠ 1 ∧ pagesI (llF n i + 1) ≤ (1 : Nat) := by
  unfold kkF ccF llF
  by_cases h : i = n
  · rw [if_pos h, if_pos h, if_pos h]; exact ⟨mayH_ref (by omega) (by omega), by omega, by decide⟩
  · rw [if_neg h, if_neg h, if_neg h]; exact ⟨may_data 1 (by omega) (by omega), by omega, by decide⟩

section
variable {kd : List PK} {ws : List Int} {ds : List (Int × List Int)} {n : Nat} {A : Nat → Nat} {fl : Nat → Bool}
/-- A head is another one; what lies elsewhere is as it was. -/
theorem At.headed {b m : Nat} {k c l k' c' l' : Int} {f f' : Bool} (h : At kd ws b b m k c l f) (hm : mayH k' c' l' f' = true) (hl : b < ws.length) : At kd (ws.set b (putH k' c' l' f')) b b m k' c' l' f' :=
  ⟨rfl, h.2.1, by rw [set_get_same _ _ _ hl]; exact ⟨hm, rfl⟩⟩
theorem At.elsewhere {a p m : Nat} {k c l x : Int} {f : Bool} (h : At kd ws p p m k c l f) (hne : a ≠ p) : At kd (ws.set a x) p p m k c l f :=
  ⟨rfl, h.2.1, by rw [set_get_other _ _ _ _ hne]; exact h.2.2⟩

/-- Objects of one number, and a weak reference behind them: which of them are final. -/
structure OS (kd : List PK) (ws : List Int) (n : Nat) (A : Nat → Nat) (fl : Nat → Bool) : Prop where
  fine : Fine ws kd []
  data : ∀ j, j < n → ∃ m : Nat, At kd ws (A j) (A j) m 3 0 1 (fl j)
  ref : ∃ m : Nat, At kd ws (A n) (A n) m 4 2 5 false
  ne : ∀ i j, i ≤ n → j ≤ n → A i = A j → i = j
theorem GChain.os {W : Nat → List Int} {K : Nat → List PK} (h : GChain (n + 1) (kkF n) (ccF n) (llF n) W K A) : OS (K (n + 1)) (W (n + 1)) n A (fun _ => false) := by
  refine ⟨(h.fine _ (Nat.le_refl _)).1, fun j hj => ?_, ?_, fun i j hi hj e => h.ne i j (by omega) (by omega) e⟩
  · obtain ⟨m, hm⟩ := h.objs (n + 1) (Nat.le_refl _) j (by omega)
    unfold kkF ccF llF at hm
    rw [if_neg (by omega), if_neg (by omega), if_neg (by omega)] at hm
    exact ⟨m, hm⟩
  · obtain ⟨m, hm⟩ := h.objs (n + 1) (Nat.le_refl _) n (by omega)
    unfold kkF ccF llF at hm
    rw [if_pos rfl, if_pos rfl, if_pos rfl] at hm
    exact ⟨m, hm⟩
theorem OS.bd (h : OS kd ws n A fl) (j : Nat) (hj : j ≤ n) : 64 ≤ A j ∧ A j < ws.length ∧ ws.length ≤ 16384 := by
  have key : ∃ (m : Nat) (k c l : Int) (f : Bool), At kd ws (A j) (A j) m k c l f := by
    rcases Nat.lt_or_ge j n with e | e
    · obtain ⟨m, hm⟩ := h.data j e; exact ⟨m, _, _, _, _, hm⟩
    · obtain rfl : j = n := by omega
      obtain ⟨m, hm⟩ := h.ref; exact ⟨m, _, _, _, _, hm⟩
  obtain ⟨m, k, c, l, f, hm⟩ := key
  have h1 := hm.facts h.fine.wf
  have h2 := h.fine.len
  omega
/-- Awaited the first time. -/
theorem OS.await2 (h : OS kd ws n A fl) (j : Nat) (hj : j < n) (hfl : fl j = false) : ∃ ws', FinalT kd ws (A j) 0 ws' ∧ OS kd ws' n A (fun i => if i = j then true else fl i) ∧ ws'[A j + 1]?.getD 0 = ws[A j + 1]?.getD 0 := by
  obtain ⟨m, hm⟩ := h.data j hj
  rw [hfl] at hm
  have hb := h.bd j (by omega)
  have hmay : mayH 3 0 1 true = true := may_final (may_data 1 (by omega) (by omega)) (by omega)
  have hT : FinalT kd ws (A j) 0 (ws.set (A j) (putH 3 0 1 true)) := .yes (A j) m 3 0 1 hm (by omega)
  refine ⟨_, hT, ⟨hT.fine h.fine, fun i hi => ?_, ?_, h.ne⟩, set_get_other _ _ _ _ (by omega)⟩
  · by_cases e : i = j
    · subst e
      show ∃ m : Nat, At _ _ _ _ m 3 0 1 (if i = i then true else fl i)
      rw [if_pos rfl]
      exact ⟨m, hm.headed hmay hb.2.1⟩
    · show ∃ m : Nat, At _ _ _ _ m 3 0 1 (if i = j then true else fl i)
      rw [if_neg e]
      obtain ⟨m', hm'⟩ := h.data i hi
      exact ⟨m', hm'.elsewhere (fun e' => e (h.ne i j (by omega) (by omega) e'.symm))⟩
  · obtain ⟨m', hm'⟩ := h.ref
    exact ⟨m', hm'.elsewhere (fun e' => by have := h.ne j n (by omega) (by omega) e'; omega)⟩
theorem OS.await (h : OS kd ws n A fl) (j : Nat) (hj : j < n) (hfl : fl j = false) : ∃ ws', FinalT kd ws (A j) 0 ws' ∧ OS kd ws' n A (fun i => if i = j then true else fl i) := by
  obtain ⟨ws', h1, h2, _⟩ := h.await2 j hj hfl
  exact ⟨ws', h1, h2⟩
/-- Once more. -/
theorem OS.again (h : OS kd ws n A fl) (j : Nat) (hj : j < n) (hfl : fl j = true) : FinalT kd ws (A j) 4 ws := by
  obtain ⟨m, hm⟩ := h.data j hj
  rw [hfl] at hm
  exact .has (A j) m 3 0 1 hm (by omega)
/-- A reference. -/
theorem OS.kind (h : OS kd ws n A fl) : FinalT kd ws (A n) 5 ws := by
  obtain ⟨m, hm⟩ := h.ref
  exact .kind (A n) m 2 5 false hm

theorem OS.head (h : OS kd ws n A fl) (j : Nat) (hj : j < n) : HeadT kd ws (A j) 3 0 1 (fl j) 0 := by
  obtain ⟨m, hm⟩ := h.data j hj
  exact .yes (A j) m 3 0 1 (fl j) hm
theorem OS.room (h : OS kd ws n A fl) (j : Nat) (hj : j < n) : Inner kd (A j + 1) ∧ PlaceT kd ws (A j) 0 (A j + 1) 0 ∧ A j + 1 < ws.length := by
  obtain ⟨m, hm⟩ := h.data j hj
  have h1 := at_room h.fine hm
  have hi : Inner kd (A j + 1) := ⟨A j, m, hm.2.1, by omega, by omega⟩
  exact ⟨hi, .yes (A j) m 0 3 0 1 (fl j) hm rfl (by omega) h1, hi.lt h.fine⟩
theorem OS.field (h : OS kd ws n A fl) (j : Nat) (hj : j < n) : FieldT kd ws (A j) 0 (ws[A j + 1]?.getD 0) 0 := .yes (A j + 1) (h.room j hj).2.1 (h.room j hj).2.2
/-- A field is put. -/
theorem OS.put (h : OS kd ws n A fl) (j : Nat) (hj : j < n) (x : Int) (hx : inI x) : PutT kd ws (A j) 0 x 0 (ws.set (A j + 1) x) ∧ OS kd (ws.set (A j + 1) x) n A fl ∧ (ws.set (A j + 1) x)[A j + 1]?.getD 0 = x := by
  obtain ⟨h1, h2, h3⟩ := h.room j hj
  refine ⟨.yes (A j + 1) h2 h3, ⟨h1.fine h.fine hx, fun i hi => ?_, ?_, h.ne⟩, set_get_same _ _ _ h3⟩
  · obtain ⟨m, hm⟩ := h.data i hi
    exact ⟨m, (h1.at' h.fine.wf).2 hm⟩
  · obtain ⟨m, hm⟩ := h.ref
    exact ⟨m, (h1.at' h.fine.wf).2 hm⟩
/-- A place within an object is none. -/
theorem OS.inside (h : OS kd ws n A fl) (j : Nat) (hj : j < n) : FinalT kd ws ((A j + 1 : Nat) : Int) 2 ws := by
  obtain ⟨hi, _, _⟩ := h.room j hj
  refine .none (fun s m hs e => ?_)
  have e2 : s = A j + 1 := by omega
  subst e2
  rw [find_nat] at hs
  exact hi.ne h.fine.wf hs rfl
end

end Go.Proofs.YtjlbfojbgnhhbaaGreat

/-
  The library's Clone of a list of integers: what the shelf's contract says, in this program's numbers.
-/
namespace Go.Proofs.YtjlbfojbgnhhbaaGreat
open Go.RowKit

/-- The numbers of slices.Clone and of what it calls. -/
def cloneN : Go.Shelf.Ren := ⟨fun | 15 => 38 | n => n, fun | 22 => 23 | 3 => 3 | 4 => 4 | n => n, fun | n => n⟩
theorem cloneN_lays : Go.Proofs.Lays2.n15 Tryz.prog cloneN := {
  mixed := by kernel_rfl
  f15 := Tryz.func38.trans (congrArg some (by kernel_rfl))
  t3 := Tryz.underlying3
  a3 := Tryz.isAgg3
  z3 := Tryz.sizeOf3
  v3 := Tryz.zeroValue3
  t4 := Tryz.underlying4
  a4 := Tryz.isAgg4
  z4 := Tryz.sizeOf4
  v4 := Tryz.zeroValue4
  t22 := Tryz.underlying23
  a22 := Tryz.isAgg23
  z22 := Tryz.sizeOf23
  v22 := Tryz.zeroValue23
  i3 := by kernel_rfl }
/-- A copy of a list, in memory that is new. -/
theorem lclone {n : Nat} {L : List Int} (la : Option Addr) (c : Nat) (w : World) (hA : IntsAt w la L) (hl : L.length = n) (hn : n ≤ 1000000) (hz : la = none → c = 0) :
    Calls Tryz.prog 38 #[.slice la n c] w fun e w' => ∃ v', e = .returned v' ∧ w'.ownsRow w.heap.size 3 1 v' n (ints L) ∧ Keep [] w w' := by
  subst hl
  cases la with
  | none =>
    have h0 : L = [] := by
      rcases Nat.eq_zero_or_pos L.length with h0 | h0
      · exact List.length_eq_zero_iff.1 h0
      · obtain ⟨_, _, e, _⟩ := hA.cells h0; cases e
    subst h0
    obtain rfl := hz rfl
    refine (Any.slices_Clone_int_nil cloneN_lays 0 0 w).mono ?_
    rintro e w' ⟨rfl, rfl⟩
    exact ⟨_, rfl, World.ownsRow_nil _ _ _ _, Keep.refl _ _⟩
  | some a =>
    rcases Nat.eq_zero_or_pos L.length with h0 | h0
    · obtain rfl : L = [] := List.length_eq_zero_iff.1 h0
      refine (Any.slices_Clone_int_zero cloneN_lays a c w).mono ?_
      rintro e w' ⟨v', rfl, h1, _, h3⟩
      exact ⟨v', rfl, h1, Keep.ofBelow h3 (Nat.le_refl _)⟩
    · obtain ⟨b, off, e, hb, hc⟩ := hA.cells h0
      cases e
      refine (Any.slices_Clone_int cloneN_lays b off L.length c L w (Nat.le_refl _) (by omega) (fun j hj => by rw [hc j hj]; simp)).mono ?_
      rintro e w' ⟨v', rfl, h1, _, h3⟩
      rw [List.take_of_length_le (Nat.le_refl _)] at h1
      exact ⟨v', rfl, h1, Keep.ofBelow h3 (Nat.le_refl _)⟩

end Go.Proofs.YtjlbfojbgnhhbaaGreat

/-
  A set of integers that a call makes for itself, a map whose elements are empty structs; setOf and has of package final.
-/
namespace Go.Proofs.YtjlbfojbgnhhbaaGreat
open Go.RowKit

/-- Block b is a map of at most n entries: x stands in it just where p says so. -/
def SetAt (w : World) (b n : Nat) (p : Int → Bool) : Prop :=
  ∃ D : DataW Unit, w.ownsMap Tryz.prog 3 (unitElem (H := Unit)) b n D ∧ ∀ x, inI x → Maps.has D (.int .i64 x) = p x
theorem SetAt.keep {S : List Nat} {w w' : World} {b n : Nat} {p : Int → Bool} (h : SetAt w b n p) (K : Keep S w w') (hS : b ∉ S) : SetAt w' b n p := by
  obtain ⟨D, ⟨es, clock, hb, r⟩, hD⟩ := h
  exact ⟨D, ⟨es, clock, K.blk hb hS, r⟩, hD⟩
theorem SetAt.lt {w : World} {b n : Nat} {p : Int → Bool} (h : SetAt w b n p) : b < w.heap.size := by
  obtain ⟨D, h, _⟩ := h
  exact h.lt
theorem SetAt.congr {w : World} {b n : Nat} {p q : Int → Bool} (h : SetAt w b n p) (e : ∀ x, inI x → p x = q x) : SetAt w b n q := by
  obtain ⟨D, h, hD⟩ := h
  exact ⟨D, h, fun x hx => (hD x hx).trans (e x hx)⟩
theorem SetAt.made (w : World) : SetAt (w.alloc (.map #[] 0)) w.heap.size 0 (fun _ => false) :=
  ⟨.map [], World.ownsMap_made w _ _ _, fun _ _ => rfl⟩
theorem lit_ne {x y : Int} (h : x ≠ y) : (Lit.int .i64 x) ≠ .int .i64 y := fun e => h (by injection e)
theorem lit_key (x : Int) : WideAt.IsKeyLit (.int .i64 x) := by first | trivial | exact ⟨_, _, rfl⟩ | simp [WideAt.IsKeyLit]
theorem SetAt.put {w' : World} {b n : Nat} {p : Int → Bool} {D : DataW Unit} {x : Int} (hD : ∀ y, inI y → Maps.has D (.int .i64 y) = p y) (hm : Maps.IsMap D) (h : w'.ownsMap Tryz.prog 3 (unitElem (H := Unit)) b (n + 1) (D.put (.int .i64 x) (.agg []))) : SetAt w' b (n + 1) (fun y => decide (y = x) || p y) := by
  refine ⟨_, h, fun y hy => ?_⟩
  by_cases e : y = x
  · subst e
    rw [Maps.has_put_same hm (lit_key y)]; simp
  · rw [Maps.has_put_other (lit_ne e), hD y hy]; simp [e]
theorem SetAt.del {w' : World} {b n : Nat} {p : Int → Bool} {D : DataW Unit} {x : Int} (hD : ∀ y, inI y → Maps.has D (.int .i64 y) = p y) (h : w'.ownsMap Tryz.prog 3 (unitElem (H := Unit)) b n (D.del (.int .i64 x))) : SetAt w' b n (fun y => decide (y ≠ x) && p y) := by
  refine ⟨_, h, fun y hy => ?_⟩
  by_cases e : y = x
  · subst e
    rw [Maps.has_del_same]; simp
  · rw [Maps.has_del_other (lit_ne e), hD y hy]; simp [e]
theorem keep_turned {w w' : World} {b : Nat} (h : w.mapTurned w' b) : Keep [b] w w' := by
  have := Keep.ofGrown h.grown
  simpa using this
theorem run_makeMap_some {P : Program} {t k e : TypeId} (ht : P.underlying t = some (.map k e)) (n : Int) (w : World) : (Instr.makeMap t (some (.int .i64 n))).run P w = .ok (.map (some w.heap.size)) (w.alloc (.map #[] 0)) := by
  simp [Instr.makeMap, run_underlying ht, asInt, asIntOf, Result.andThen]
theorem setKeyed : Maps.Keyed Tryz.prog 3 := Maps.int_keyed Tryz.underlying3
theorem setKey {x : Int} (h : inI x) : Go.keyOf Tryz.prog 3 (.int .i64 x) = some (.int .i64 x) := Maps.keyOf_int_mk Tryz.underlying3 (WalkArith.wf_i64 h)
theorem inL_snoc (L : List Int) (j : Nat) (h : j < L.length) (y : Int) : (decide (y = L[j]?.getD 0) || inL (L.take j) y) = inL (L.take (j + 1)) y := by
  unfold inL
  rw [← Bool.decide_or]
  refine decide_eq_decide.2 ?_
  rw [List.take_add_one, List.mem_append]
  simp [h, or_comm]

set_option maxRecDepth 100000 in
set_option maxHeartbeats 1600000 in
theorem psetof (la : Option Addr) (n c : Nat) (L : List Int) (w : World) (hA : IntsAt w la L) (hn : L.length = n) (hb : n ≤ 1000000) :
    Calls Tryz.prog 31 #[.slice la n c] w fun e w' => e = .returned (.map (some w.heap.size)) ∧ SetAt w' w.heap.size n (inL L) ∧ Keep [] w w' ∧ w.heap.size < w'.heap.size := by
  have HA := hid hA
  have HN := hid hn
  have hmm := @run_makeMap_some Tryz.prog _ _ _ Tryz.underlying71
  clear hA hn
  go_enter Tryz.func31, Tryz.ntmps31
  go_wp2_with fail
  go_loopw [11] (fun i wr => ∃ j : Nat, i = .int .i64 j ∧ j ≤ n ∧ Hid (SetAt wr w.heap.size j (inL (L.take j))) ∧ Hid (Keep [] w wr)) (fun i _ => n - (intOf i).toNat)
  case atStart =>
    refine ⟨0, rfl, by omega, ?_, Keep.alloc [] w _⟩
    exact (SetAt.made w).congr (fun x _ => by simp [inL])
  case round =>
    obtain ⟨j, rfl, hj, HS, HK⟩ := hrel
    by_cases hlt : j < n
    · have hd : decide (j < n) = true := decide_eq_true hlt
      have hA2 := HA.out.keep HK.out (HA.out.off (by simp))
      obtain ⟨b, off, rfl, _, hcs⟩ := hA2.cells (by have := HN.out; omega)
      have hc := hcs j (by have := HN.out; omega)
      have HI := (show Hid (inI (L[j]?.getD 0)) from ⟨hA2.low j, hA2.high j⟩)
      have HZ := (show Hid (∀ y, (decide (y = L[j]?.getD 0) || inL (L.take j) y) = inL (L.take (j + 1)) y) from fun y => inL_snoc L j (by have := HN.out; omega) y)
      obtain ⟨D, hown, hD⟩ := HS.out
      have HD := hid hD
      clear hcs hA2 hD
      generalize L[j]?.getD 0 = y at *
      go_wp2_with (first
        | (at_mapUpdate; refine wpList_mapUpdate_own _ rfl _ _ _ 71 rfl 3 110 setKeyed Tryz.underlying71 (unitElem (H := Unit)) w.heap.size j D rfl hown (by unfold maxLen; omega) _ _ _ rfl rfl (setKey HI.out) (.agg []) [] unitElem_mk ?_; intro w1 hown1 hgrow1))
      go_roundw
      case rel =>
        refine ⟨j + 1, by go_num, by omega, ?_, HK.out.grown hgrow1 (fun k e => by cases e; exact Nat.le_refl _)⟩
        exact (SetAt.put HD.out hown.isMap hown1).congr (fun x _ => HZ.out x)
      case measure => simp [intOf]; omega
    · obtain rfl : j = n := by omega
      have hd : decide (j < j) = false := decide_eq_false (by omega)
      go_wp2_with fail
      go_ret
      have h1 := HS.out
      rw [show L.take j = L from List.take_of_length_le (by rw [HN.out]; exact Nat.le_refl _)] at h1
      exact ⟨rfl, h1, HK.out, h1.lt⟩
set_option maxRecDepth 100000 in
set_option maxHeartbeats 1600000 in
theorem psethas (b n : Nat) (p : Int → Bool) (x : Int) (w : World) (hS : SetAt w b n p) (hx : inI x) :
    Calls Tryz.prog 32 #[.map (some b), .int .i64 x] w fun e w' => e = .returned (.bool (p x)) ∧ Keep [] w w' := by
  obtain ⟨D, hown, hD⟩ := hS
  have HE := (show Hid (Maps.has D (.int .i64 x) = p x) from hD x hx)
  have HX := hid hx
  clear hD hx
  go_enter Tryz.func32, Tryz.ntmps32
  go_wp2_with (first
    | (at_lookup; refine wpList_lookup_own_unit _ rfl _ _ 71 rfl 3 110 setKeyed Tryz.underlying71 (Tryz.zeroValue110 _) b n D rfl hown _ _ rfl (setKey HX.out) ?_))
  go_ret
  exact ⟨by rw [HE.out]; rfl, Keep.alloc [] w _⟩

end Go.Proofs.YtjlbfojbgnhhbaaGreat

/-
  The library's Delete of one integer of a list that is one's own: what the shelf's contract says, in this program's numbers; what a row that was put anew comes to.
-/
namespace Go.Proofs.YtjlbfojbgnhhbaaGreat
open Go.RowKit Go.Sort

theorem keep_put {α : Type} [Inhabited α] {enc : α → Value} (w : World) (g o q : Nat) (d : Array α) : Keep [g] w (putRow enc (Sort.ahead w q) g o d) := by
  refine ⟨rfl, rfl, rfl, by simp [putRow, mapBlock, Sort.ahead], fun k hk hS => ?_⟩
  have : g ≠ k := by simp at hS; omega
  simp [putRow, mapBlock, Sort.ahead, Array.getElem?_modify, this]
theorem IsMid.holds {w : World} {t : TypeId} {g o n cap : Nat} {L : List Int} (h : IsMid w t (.slice (some ⟨g, o, none⟩) n cap) L) : Holds encI w g o L.toArray ∧ L.length = n ∧ n ≤ cap ∧ cap ≤ maxLen := by
  rcases h with ⟨h, _⟩ | ⟨g', o', cap', cur, h1, h2, h3, h4, h5, h6⟩
  · cases h
  · cases h1
    refine ⟨fun j hj => ?_, rfl, h3, h4⟩
    have hj' : j < L.length := by simpa using hj
    refine ⟨?_, by simp [World.frozen?, h2]⟩
    have e := h6 j hj'
    simp [World.cell?, h2, e, encI, getElem!_pos, hj']
/-- A list of one's own whose places were put anew, cut to its first k. -/
theorem mid_put {w : World} {t : TypeId} {g o n cap q k : Nat} {L ys : List Int} (h : IsMid w t (.slice (some ⟨g, o, none⟩) n cap) L) (hy : ys.length = n) (hk : k ≤ n) :
    IsMid (putRow encI (Sort.ahead w q) g o ys.toArray) t (.slice (some ⟨g, o, none⟩) k cap) (ys.take k) := by
  rcases h with ⟨h, _⟩ | ⟨g', o', cap', cur, h1, h2, h3, h4, h5, h6⟩
  · cases h
  · cases h1
    refine .inr ⟨g, o, cap, putCells encI o ys.toArray cur, by rw [List.length_take, Nat.min_eq_left (by omega)], ?_, by rw [List.length_take]; omega, h4, by simpa [putCells] using h5, fun i hi => ?_⟩
    · simp [putRow, mapBlock, Sort.ahead, Array.getElem?_modify, h2, onCells]
    · rw [List.length_take] at hi
      have hc : o + i < cur.size := by omega
      have hi2 : i < ys.length := by omega
      simp only [putCells, Array.getElem?_mapIdx, Array.getElem?_eq_getElem hc, Option.map_some]
      rw [if_pos (by simp; omega)]
      simp [encI, getElem!_pos, hi2, show i < k by omega]
/-- The numbers of slices.Delete and of what it calls. -/
def deleteN : Go.Shelf.Ren := ⟨fun | 23 => 37 | n => n, fun | 22 => 23 | 3 => 3 | 4 => 4 | 0 => 0 | n => n, fun | n => n⟩
theorem deleteN_lays : Go.Proofs.Lays2.n23 Tryz.prog deleteN := {
  mixed := by kernel_rfl
  f23 := Tryz.func37.trans (congrArg some (by kernel_rfl))
  t0 := Tryz.underlying0
  a0 := Tryz.isAgg0
  z0 := Tryz.sizeOf0
  v0 := Tryz.zeroValue0
  t3 := Tryz.underlying3
  a3 := Tryz.isAgg3
  z3 := Tryz.sizeOf3
  v3 := Tryz.zeroValue3
  t4 := Tryz.underlying4
  a4 := Tryz.isAgg4
  z4 := Tryz.sizeOf4
  v4 := Tryz.zeroValue4
  t22 := Tryz.underlying23
  a22 := Tryz.isAgg23
  z22 := Tryz.sizeOf23
  v22 := Tryz.zeroValue23
  i3 := by kernel_rfl }
/-- One goes, the others stay in order. -/
theorem sdelete {la : Option Addr} {n ca : Nat} {L : List Int} (j : Nat) (w : World) (h : IsMid w 3 (.slice la n ca) L) (hj : j < n) :
    Calls Tryz.prog 37 #[.slice la n ca, .int .i64 j, .int .i64 (j + 1 : Nat)] w fun e w' => ∃ g o, la = some ⟨g, o, none⟩ ∧ e = .returned (.slice la (n - 1) ca) ∧ IsMid w' 3 (.slice la (n - 1) ca) (L.take j ++ L.drop (j + 1)) ∧ Keep [g] w w' := by
  obtain ⟨g, o, rfl⟩ : ∃ g o, la = some ⟨g, o, none⟩ := by
    rcases h with ⟨e, rfl⟩ | ⟨g, o, _, _, e, _⟩
    · cases e; omega
    · cases e; exact ⟨g, o, rfl⟩
  obtain ⟨hH, hl, hc, hm⟩ := h.holds
  have hs : L.toArray.size = n := by simpa using hl
  have hC := Any.slices_Delete_int_arr deleteN_lays g o ca j (j + 1) L.toArray w hH (by omega) (by unfold maxLen at hm; omega) (by omega) (by omega)
  rw [hs] at hC
  refine hC.mono ?_
  rintro e w' ⟨rfl, q, rfl⟩
  have h1 := mid_put (q := q) (k := n - 1) (ys := L.take j ++ L.drop (j + 1) ++ List.replicate 1 0) h (by simp; omega) (by omega)
  rw [List.take_append_of_le_length (by simp; omega), show (L.take j ++ L.drop (j + 1)).take (n - 1) = L.take j ++ L.drop (j + 1) from List.take_of_length_le (by simp; omega)] at h1
  refine ⟨g, o, rfl, by rw [show n - (j + 1 - j) = n - 1 by omega], ?_, keep_put w g o q _⟩
  have e : (L.toArray.toList.take j ++ L.toArray.toList.drop (j + 1) ++ List.replicate (j + 1 - j) 0).toArray = (L.take j ++ L.drop (j + 1) ++ List.replicate 1 0).toArray := by
    rw [show j + 1 - j = 1 by omega]
  rw [e]; exact h1

end Go.Proofs.YtjlbfojbgnhhbaaGreat

/-
  The library's DeleteFunc over a list of one's own, with the closure of Pend: what is no longer in the set goes.
-/
namespace Go.Proofs.YtjlbfojbgnhhbaaGreat
open Go.RowKit

/-- The closure, as a value. -/
def clV (cb : Nat) : Value := .func (.func 34) #[] #[.pointer (some ⟨cb, 0, none⟩)]

set_option maxRecDepth 100000 in
set_option maxHeartbeats 1600000 in
theorem pendcl (x : Int) (cb b m : Nat) (p : Int → Bool) (w : World) (hc : w.cell? ⟨cb, 0, none⟩ = some (.map (some b))) (hS : SetAt w b m p) (hx : inI x) :
    Calls Tryz.prog 34 #[.int .i64 x, .pointer (some ⟨cb, 0, none⟩)] w fun e w' => e = .returned (.bool (!p x)) ∧ Keep [] w w' := by
  have HS := hid hS
  have HX := hid hx
  clear hS hx
  obtain ⟨q, hq⟩ : ∃ q, p x = q := ⟨_, rfl⟩
  rw [hq]
  go_enter Tryz.func34, Tryz.ntmps34
  go_wp2_with fail
  refine (psethas b m p x w HS.out HX.out).mono ?_
  rintro e w1 ⟨rfl, hK1⟩
  have HK := hid hK1
  rw [hq]
  clear hK1 hq
  cases q
  · go_wp2_with fail
    go_ret
    exact ⟨rfl, HK.out⟩
  · go_wp2_with fail
    go_ret
    exact ⟨rfl, HK.out⟩
set_option maxRecDepth 100000 in
set_option maxHeartbeats 1600000 in
theorem pindex (la : Option Addr) (n c : Nat) (L : List Int) (cb b m : Nat) (p : Int → Bool) (w : World) (hA : IntsAt w la L) (hn : L.length = n) (hb : n ≤ 1000000) (hc : w.cell? ⟨cb, 0, none⟩ = some (.map (some b))) (hS : SetAt w b m p) (hcb : cb < w.heap.size) :
    Calls Tryz.prog 57 #[.slice la n c, clV cb] w fun e w' => ∃ r : Int, e = .returned (.int .i64 r) ∧ ((r = -1 ∧ ∀ t, t < n → p (L[t]?.getD 0) = true) ∨ ∃ k : Nat, r = k ∧ k < n ∧ p (L[k]?.getD 0) = false ∧ ∀ t, t < k → p (L[t]?.getD 0) = true) ∧ Keep [] w w' := by
  have HA := hid hA
  have HN := hid hn
  have HC := hid hc
  have HS := hid hS
  have HCB := hid hcb
  clear hA hn hc hS hcb
  unfold clV
  go_enter Tryz.func57, Tryz.ntmps57
  go_wp2_with fail
  go_loopw [8] (fun i wr => ∃ j : Nat, i = .int .i64 j ∧ j ≤ n ∧ Hid (∀ t, t < j → p (L[t]?.getD 0) = true) ∧ Hid (Keep [] w wr)) (fun i _ => n - (intOf i).toNat)
  case atStart => exact ⟨0, rfl, by omega, fun t ht => by omega, Keep.refl _ _⟩
  case round =>
    obtain ⟨j, rfl, hj, HJ, HK⟩ := hrel
    by_cases hlt : j < n
    · have hd : decide (j < n) = true := decide_eq_true hlt
      have hA2 := HA.out.keep HK.out (HA.out.off (by simp))
      obtain ⟨lb, lo, rfl, _, hcs⟩ := hA2.cells (by have := HN.out; omega)
      have hcx := hcs j (by have := HN.out; omega)
      have HI := (show Hid (inI (L[j]?.getD 0)) from ⟨hA2.low j, hA2.high j⟩)
      obtain ⟨x, hx⟩ : ∃ x, L[j]?.getD 0 = x := ⟨_, rfl⟩
      rw [hx] at hcx HI
      have HX := hid hx
      clear hcs hA2 hx
      go_wp2_with fail
      refine (pendcl x cb b m p _ ((HK.out.cell HCB.out (by simp) 0).trans HC.out) (HS.out.keep HK.out (by simp)) HI.out).mono ?_
      rintro e w1 ⟨rfl, hK1⟩
      have HK1 := (show Hid (Keep [] w w1) from HK.out.trans hK1)
      clear hK1
      cases hp : p x with
      | true =>
        rw [show (!true) = false from rfl]
        go_wp2_with fail
        go_roundw
        case rel =>
          refine ⟨j + 1, by go_num, by omega, fun t ht => ?_, HK1.out⟩
          by_cases e : t = j
          · subst e; rw [HX.out]; exact hp
          · exact HJ.out t (by omega)
        case measure => simp [intOf]; omega
      | false =>
        rw [show (!false) = true from rfl]
        go_wp2_with fail
        go_ret
        exact ⟨j, rfl, .inr ⟨j, rfl, hlt, by rw [HX.out]; exact hp, HJ.out⟩, HK1.out⟩
    · obtain rfl : j = n := by omega
      have hd : decide (j < j) = false := decide_eq_false (by omega)
      go_wp2_with fail
      go_ret
      exact ⟨-1, rfl, .inl ⟨rfl, HJ.out⟩, HK.out⟩

/-- One place of a list of one's own is put. -/
theorem mid_cells {w : World} {t : TypeId} {g o n cap : Nat} {L : List Int} (h : IsMid w t (.slice (some ⟨g, o, none⟩) n cap) L) {i : Nat} (hi : i < n) : w.cell? ⟨g, o + i, none⟩ = some (.int .i64 (L[i]?.getD 0)) ∧ w.frozen? ⟨g, o + i, none⟩ = false := by
  rcases h with ⟨h, _⟩ | ⟨g', o', cap', cur, h1, h2, h3, h4, h5, h6⟩
  · cases h
  · cases h1
    exact ⟨by simp [World.cell?, h2, h6 i hi], by simp [World.frozen?, h2]⟩
theorem mid_set {w : World} {t : TypeId} {g o n cap : Nat} {L : List Int} (h : IsMid w t (.slice (some ⟨g, o, none⟩) n cap) L) {i : Nat} (hi : i < n) (x : Int) : IsMid (w.setCell ⟨g, o + i, none⟩ (.int .i64 x)) t (.slice (some ⟨g, o, none⟩) n cap) (L.set i x) := by
  rcases h with ⟨h, _⟩ | ⟨g', o', cap', cur, h1, h2, h3, h4, h5, h6⟩
  · cases h
  · cases h1
    have hc : o + i < cur.size := by omega
    have hset := heap_setCell_same w g (o + i) cur t (.int .i64 x) h2
    refine .inr ⟨g, o, cap, cur.setIfInBounds (o + i) (.int .i64 x), by simp, hset, by simpa using h3, h4, by simpa using h5, fun j hj => ?_⟩
    rw [List.length_set] at hj
    by_cases e : j = i
    · subst e
      rw [Array.getElem?_setIfInBounds_self_of_lt hc]; simp [hi]
    · rw [Array.getElem?_setIfInBounds_ne (by omega), h6 j hj, List.getElem?_set_ne (by omega)]
theorem cells_put (g : Nat) (t : TypeId) : ∀ (vs : List Value) (o : Nat) (w : World) (cur : Array Value), w.heap[g]? = some (.cells cur t (0, 0)) → ∃ cur', (w.setCells g o vs).heap[g]? = some (.cells cur' t (0, 0)) ∧ cur'.size = cur.size ∧ ∀ k, k < o → cur'[k]? = cur[k]?
  | [], o, w, cur, h => ⟨cur, h, rfl, fun _ _ => rfl⟩
  | v :: vs, o, w, cur, h => by
    obtain ⟨cur', e1, e2, e3⟩ := cells_put g t vs (o + 1) (w.setCell ⟨g, o, none⟩ v) _ (heap_setCell_same w g o cur t v h)
    refine ⟨cur', e1, by rw [e2]; simp, fun k hk => ?_⟩
    rw [e3 k (by omega), Array.getElem?_setIfInBounds_ne (by omega)]
theorem keep_cells (g : Nat) : ∀ (vs : List Value) (o : Nat) (w : World), Keep [g] w (w.setCells g o vs)
  | [], _, w => Keep.refl _ _
  | v :: vs, o, w => (Keep.setCell (S := [g]) w (a := ⟨g, o, none⟩) v (by simp)).trans (keep_cells g vs (o + 1) _)
/-- A list of one's own, cut: what lies behind the cut may be anything. -/
theorem mid_clear {w : World} {t : TypeId} {g o n cap : Nat} {L : List Int} (h : IsMid w t (.slice (some ⟨g, o, none⟩) n cap) L) {i : Nat} (hi : i ≤ n) (vs : List Value) : IsMid (w.setCells g (o + i) vs) t (.slice (some ⟨g, o, none⟩) i cap) (L.take i) := by
  rcases h with ⟨h, _⟩ | ⟨g', o', cap', cur, h1, h2, h3, h4, h5, h6⟩
  · cases h
  · cases h1
    obtain ⟨cur', e1, e2, e3⟩ := cells_put g t vs (o + i) w cur h2
    refine .inr ⟨g, o, cap, cur', by rw [List.length_take, Nat.min_eq_left hi], e1, by rw [List.length_take]; omega, h4, by rw [e2]; exact h5, fun j hj => ?_⟩
    rw [List.length_take] at hj
    rw [e3 _ (by omega), h6 j (by omega), List.getElem?_take, if_pos (by omega)]

theorem filter_snoc (p : Int → Bool) (L : List Int) (j : Nat) (h : j < L.length) : (L.take (j + 1)).filter p = (L.take j).filter p ++ (if p (L[j]?.getD 0) = true then [L[j]?.getD 0] else []) := by
  have e : L.take (j + 1) = L.take j ++ [L[j]?.getD 0] := by rw [List.take_add_one]; simp [h]
  rw [e, List.filter_append]
  cases hp : p (L[j]?.getD 0) <;> simp [hp]
theorem filter_all {p : Int → Bool} {L : List Int} (h : ∀ t, t < L.length → p (L[t]?.getD 0) = true) : L.filter p = L := by
  refine List.filter_eq_self.2 (fun x hx => ?_)
  obtain ⟨t, ht, rfl⟩ := List.getElem_of_mem hx
  have := h t ht
  rwa [List.getElem?_eq_getElem ht] at this
/-- The loop's list: j places have been looked at, what is kept of them are its first i, from there on it is as it was. -/
structure DelAt (p : Int → Bool) (L : List Int) (i j : Nat) (dk : List Int) : Prop where
  len : dk.length = L.length
  lt : i < j
  low : dk.take i = (L.take j).filter p
  high : ∀ t, i ≤ t → dk[t]? = L[t]?
theorem DelAt.start {p : Int → Bool} {L : List Int} {k : Nat} (hk : k < L.length) (h1 : p (L[k]?.getD 0) = false) (h2 : ∀ t, t < k → p (L[t]?.getD 0) = true) : DelAt p L k (k + 1) L := by
  refine ⟨rfl, Nat.lt_succ_self _, ?_, fun _ _ => rfl⟩
  rw [filter_snoc p L k hk, h1, if_neg (by simp), List.append_nil, filter_all]
  intro t ht
  rw [List.length_take] at ht
  rw [List.getElem?_take, if_pos (by omega)]
  exact h2 t (by omega)
theorem DelAt.keep {p : Int → Bool} {L dk : List Int} {i j : Nat} (h : DelAt p L i j dk) (hj : j < L.length) (hp : p (L[j]?.getD 0) = true) : DelAt p L (i + 1) (j + 1) (dk.set i (L[j]?.getD 0)) := by
  have h1 := h.lt
  have h2 := h.len
  refine ⟨by rw [List.length_set]; exact h2, by omega, ?_, fun t ht => ?_⟩
  · rw [filter_snoc p L j hj, hp, if_pos rfl, ← h.low, List.take_add_one, List.take_set_of_le (by omega)]
    simp [show i < dk.length by omega]
  · rw [List.getElem?_set_ne (by omega)]; exact h.high t (by omega)
theorem DelAt.skip {p : Int → Bool} {L dk : List Int} {i j : Nat} (h : DelAt p L i j dk) (hj : j < L.length) (hp : p (L[j]?.getD 0) = false) : DelAt p L i (j + 1) dk := by
  have h1 := h.lt
  refine ⟨h.len, by omega, ?_, h.high⟩
  rw [filter_snoc p L j hj, hp, if_neg (by simp), List.append_nil]; exact h.low
theorem DelAt.get {p : Int → Bool} {L dk : List Int} {i j : Nat} (h : DelAt p L i j dk) : dk[j]?.getD 0 = L[j]?.getD 0 := by rw [h.high j (by have := h.lt; omega)]

set_option maxRecDepth 100000 in
set_option maxHeartbeats 3200000 in
theorem pdelf (la : Option Addr) (n c : Nat) (L : List Int) (cb b m : Nat) (p : Int → Bool) (w : World) (h : IsMid w 3 (.slice la n c) L) (hr : inR L) (hb : n ≤ 1000000) (hc : w.cell? ⟨cb, 0, none⟩ = some (.map (some b))) (hS : SetAt w b m p) (hcb : cb < w.heap.size) (hne : ∀ k, (Value.slice la n c).ownBlock = some k → k ≠ cb ∧ k ≠ b) :
    Calls Tryz.prog 33 #[.slice la n c, clV cb] w fun e w' => ∃ n' : Nat, e = .returned (.slice la n' c) ∧ IsMid w' 3 (.slice la n' c) (L.filter p) ∧ Keep (Value.slice la n c).ownBlock.toList w w' := by
  obtain ⟨hA, hn, _, hcap⟩ := h.ints hr
  have hI := pindex la n c L cb b m p w hA hn hb hc hS hcb
  have HM := hid h
  have HN := hid hn
  have HC := hid hc
  have HS := hid hS
  have HCB := hid hcb
  have HNE := hid hne
  have HR := hid hr
  have HI := hid hI
  clear h hn hc hS hcb hne hr hI hA
  go_enter Tryz.func33, Tryz.ntmps33
  go_wp2_with fail
  refine HI.out.mono ?_
  rintro e w1 ⟨r, rfl, hr, hK1⟩
  have HK1 := hid hK1
  clear HI hK1
  rcases hr with ⟨rfl, hall⟩ | ⟨k, rfl, hk, hk1, hk2⟩
  · have HF := (show Hid (L.filter p = L) from filter_all (fun t ht => hall t (by have := HN.out; omega)))
    clear hall
    go_wp2_with fail
    go_ret
    exact ⟨n, rfl, by rw [HF.out]; exact HM.out.keep HK1.out (by simp), HK1.out.mono (by simp)⟩
  · have hne1 : ((k : Int) == -1) = false := beq_eq_false_iff_ne.2 (by omega)
    have HD0 := (show Hid (DelAt p L k (k + 1) L) from DelAt.start (by have := HN.out; omega) hk1 hk2)
    obtain ⟨g, o, rfl⟩ : ∃ g o, la = some ⟨g, o, none⟩ := by
      rcases HM.out with ⟨e, _⟩ | ⟨g, o, _, _, e, _⟩
      · cases e; omega
      · cases e; exact ⟨g, o, rfl⟩
    clear hk1 hk2
    have hcm : c ≤ 9223372036854775807 := by
      have := HM.out.holds.2.2.2
      unfold maxLen at this; omega
    go_wp2_with fail
    go_loopw [5, 6] (fun s5 s6 wr => ∃ (i j : Nat) (dk : List Int), s5 = .int .i64 i ∧ s6 = .int .i64 j ∧ j ≤ n ∧ Hid (DelAt p L i j dk) ∧ Hid (IsMid wr 3 (.slice (some ⟨g, o, none⟩) n c) dk) ∧ Hid (Keep [g] w wr)) (fun _ s6 _ => n - (intOf s6).toNat)
    case atStart => exact ⟨k, k + 1, L, rfl, by go_num, by omega, HD0, HM.out.keep HK1.out (by simp), HK1.out.mono (by simp)⟩
    case round =>
      obtain ⟨i, j, dk, rfl, rfl, hj, HD, HW, HK⟩ := hrel
      have hij := HD.out.lt
      by_cases hlt : j < n
      · have hltz : (j : Int) < (n : Int) := by omega
        obtain ⟨hcj, _⟩ := mid_cells HW.out hlt
        rw [HD.out.get] at hcj
        have HIx := (show Hid (inI (L[j]?.getD 0)) from HR.out j)
        have HKp := (show Hid (p (L[j]?.getD 0) = true → DelAt p L (i + 1) (j + 1) (dk.set i (L[j]?.getD 0))) from HD.out.keep (by have := HN.out; omega))
        have HSk := (show Hid (p (L[j]?.getD 0) = false → DelAt p L i (j + 1) dk) from HD.out.skip (by have := HN.out; omega))
        generalize L[j]?.getD 0 = x at *
        have HCx := (show Hid (wr.cell? ⟨cb, 0, none⟩ = some (.map (some b)) ∧ SetAt wr b m p) from ⟨(HK.out.cell HCB.out (by simp; exact fun e => (HNE.out g rfl).1 e.symm) 0).trans HC.out, HS.out.keep HK.out (by simp; exact fun e => (HNE.out g rfl).2 e.symm)⟩)
        unfold clV
        go_wp2_with fail
        refine (pendcl x cb b m p _ HCx.out.1 HCx.out.2 HIx.out).mono ?_
        rintro e w2 ⟨rfl, hK2⟩
        have HW2 := (show Hid (IsMid w2 3 (.slice (some ⟨g, o, none⟩) n c) dk) from HW.out.keep hK2 (by simp))
        have HK2 := (show Hid (Keep [g] w w2) from HK.out.trans (hK2.mono (by simp)))
        clear hK2 hcj
        cases hp : p x with
        | true =>
          rw [show (!true) = false from rfl]
          obtain ⟨hci, hfi⟩ := mid_cells HW2.out (show i < n by omega)
          generalize dk[i]?.getD 0 = old at hci
          go_wp2_with fail
          go_roundw
          case rel => exact ⟨i + 1, j + 1, dk.set i x, by go_num, by go_num, by omega, HKp.out hp, mid_set HW2.out (by omega) x, HK2.out.trans (Keep.setCell _ _ (by simp))⟩
          case measure => simp [intOf]; omega
        | false =>
          rw [show (!false) = true from rfl]
          go_wp2_with fail
          go_roundw
          case rel => exact ⟨i, j + 1, dk, rfl, by go_num, by omega, HSk.out hp, HW2.out, HK2.out⟩
          case measure => simp [intOf]; omega
      · obtain rfl : j = n := by omega
        have hltz : ¬ (j : Int) < (j : Int) := by omega
        have hcl : ∀ ty, (Builtin.clear_ #[23] ty #[.slice (some ⟨g, o + i, none⟩) (j - i) (c - i)]).run Tryz.prog wr = .ok (.tuple #[]) (wr.setCells g (o + i) (List.replicate (j - i) (.int .i64 0))) :=
          fun ty => Lib.run_clear_slice wr _ _ ty _ Tryz.underlying23 Tryz.zeroValue3 rfl rfl g (o + i) _ _ (by omega) (fun t ht => by rw [show o + i + t = o + (i + t) by omega, (mid_cells HW.out (show i + t < j by omega)).1]; rfl) (fun t ht => by rw [show o + i + t = o + (i + t) by omega]; exact (mid_cells HW.out (show i + t < j by omega)).2)
        have HX := (show Hid (IsMid (wr.setCells g (o + i) (List.replicate (j - i) (.int .i64 0))) 3 (.slice (some ⟨g, o, none⟩) i c) (L.filter p)) from by
          have e := mid_clear HW.out (show i ≤ j by omega) (List.replicate (j - i) (.int .i64 0))
          rw [HD.out.low, show L.take j = L from List.take_of_length_le (by have := HN.out; omega)] at e
          exact e)
        go_wp2_with fail
        go_ret
        exact ⟨i, rfl, HX.out, HK.out.trans (keep_cells g _ _ _)⟩

end Go.Proofs.YtjlbfojbgnhhbaaGreat

/-
  Package final in memory: the block of Finals, its two lists, the heap that they are of; what New, Await, Finals, Pend, Pending and Take answer and leave.
-/
namespace Go.Proofs.YtjlbfojbgnhhbaaGreat
open Go.RowKit

theorem Tryz.infoIntF : (Tryz.prog.info? 3).map (fun i => (i.zero, i.size, i.bytes)) = some (some (.int .i64 0), 1, 8) := by kernel_rfl
def pfObj (hb : Nat) (va qa : Value) : Obj := .cells #[.pointer (some ⟨hb, 0, none⟩), va, qa] 69 (0, 0)
def pfinR (fb hb : Nat) (va qa : Value) (ws : List Int) (kd : List PK) (ds : List (Int × List Int)) (L Q : List Int) : Asn :=
  (((blockA fb (pfObj hb va qa)).star (heapA hb ws kd ds)).star (midA 3 va L)).star (midA 3 qa Q)
/-- The program's finals: L wait, Q are pending. -/
def pfinA (fb hb : Nat) (ws : List Int) (kd : List PK) (ds : List (Int × List Int)) (L Q : List Int) : Asn where
  at' w F := ∃ va qa, (pfinR fb hb va qa ws kd ds L Q).at' w F ∧ inR L ∧ inR Q
  keep := fun h K hS => by
    obtain ⟨va, qa, h, e⟩ := h
    exact ⟨va, qa, (pfinR fb hb va qa ws kd ds L Q).keep h K hS, e⟩
  lt := fun h => by
    obtain ⟨va, qa, h, e⟩ := h
    exact (pfinR fb hb va qa ws kd ds L Q).lt h

section
variable {w0 w : World} {F0 : List Nat} {fb hb : Nat} {va qa : Value} {ws : List Int} {kd : List PK} {ds : List (Int × List Int)} {L Q : List Int}
theorem Has.pfraw (h : Has w0 F0 (pfinA fb hb ws kd ds L Q) w) : ∃ va qa, Has w0 F0 (pfinR fb hb va qa ws kd ds L Q) w ∧ inR L ∧ inR Q := by
  obtain ⟨F, ⟨va, qa, h1, e⟩, u⟩ := h
  exact ⟨va, qa, ⟨F, h1, u⟩, e⟩
theorem Has.pfin (h : Has w0 F0 (pfinR fb hb va qa ws kd ds L Q) w) (h1 : inR L) (h2 : inR Q) : Has w0 F0 (pfinA fb hb ws kd ds L Q) w := h.map (fun _ h => ⟨va, qa, h, h1, h2⟩)
theorem Has.pfheap (h : Has w0 F0 (pfinA fb hb ws kd ds L Q) w) : Has w0 F0 (heapA hb ws kd ds) w := by
  obtain ⟨va, qa, h, _⟩ := h.pfraw
  exact h.fst.fst.snd
theorem Has.pffine (h : Has w0 F0 (pfinA fb hb ws kd ds L Q) w) : Fine ws kd ds := h.pfheap.fine
/-- A call on the heap alone. -/
theorem has_pfheap {P : Program} {f : FuncId} {args : Array Value} {ws' : List Int} {kd' : List PK} {ds' : List (Int × List Int)} {R : Ending → World → Prop} (h : Has w0 F0 (pfinA fb hb ws kd ds L Q) w) (hc : ∀ F, Has w F (heapA hb ws kd ds) w → Calls P f args w fun e w' => R e w' ∧ Has w F (heapA hb ws' kd' ds') w') :
    Calls P f args w fun e w' => R e w' ∧ Has w0 F0 (pfinA fb hb ws' kd' ds' L Q) w' := by
  obtain ⟨va, qa, h, h1, h2⟩ := h.pfraw
  refine (has_left h (fun F hF => has_left hF (fun F hF => has_right hF hc))).mono ?_
  rintro e w' ⟨hq, hX⟩
  exact ⟨hq, Has.pfin hX h1 h2⟩

theorem Has.pfcells (h : Has w0 F0 (pfinR fb hb va qa ws kd ds L Q) w) : w.heap[fb]? = some (pfObj hb va qa) := h.fst.fst.fst.fact (fun _ h => h.2)
theorem pfobj_cells (h : w.heap[fb]? = some (pfObj hb va qa)) : w.cell? ⟨fb, 0, none⟩ = some (.pointer (some ⟨hb, 0, none⟩)) ∧ w.cell? ⟨fb, 1, none⟩ = some va ∧ w.cell? ⟨fb, 2, none⟩ = some qa ∧ w.frozen? ⟨fb, 1, none⟩ = false ∧ w.frozen? ⟨fb, 2, none⟩ = false := by
  unfold pfObj at h
  exact ⟨by simp [World.cell?, h], by simp [World.cell?, h], by simp [World.cell?, h], by simp [World.frozen?, h], by simp [World.frozen?, h]⟩
theorem Has.pfmid1 (h : Has w0 F0 (pfinR fb hb va qa ws kd ds L Q) w) : IsMid w 3 va L := h.fst.snd.fact (fun _ h => h.2)
theorem Has.pfmid2 (h : Has w0 F0 (pfinR fb hb va qa ws kd ds L Q) w) : IsMid w 3 qa Q := h.snd.fact (fun _ h => h.2)
/-- A list is another one. -/
theorem mid_turn {w w1 : World} {A : Asn} {va va' : Value} {L L' : List Int} (h : Has w0 F0 ((midA 3 va L).star A) w) (K : Keep va.ownBlock.toList w w1) (hm : IsMid w1 3 va' L') (hg : ∀ k, va'.ownBlock = some k → va.ownBlock = some k ∨ w.heap.size ≤ k) :
    Has w0 F0 ((midA 3 va' L').star A) w1 :=
  Has.left h (fun F hF => ⟨va'.ownBlock.toList, ⟨rfl, hm⟩, by rw [hF.1]; exact K, fun k e => by
    rw [hF.1]
    rcases hg k (by simpa using e) with g | g
    · exact .inl (by simp [g])
    · exact .inr g⟩)
theorem IsMid.capR {w : World} {t : TypeId} {la : Option Addr} {n c : Nat} {L : List Int} (h : IsMid w t (.slice la n c) L) : c ≤ maxLen := by
  rcases h with ⟨e, _⟩ | ⟨_, _, _, _, e, _, _, e3, _⟩
  · cases e; exact Nat.zero_le _
  · cases e; exact e3
/-- What waits is another list. -/
theorem Has.pfset1 {w1 : World} {va' : Value} {L' : List Int} (h : Has w0 F0 (pfinR fb hb va qa ws kd ds L Q) w) (K : Keep va.ownBlock.toList w w1) (hm : IsMid w1 3 va' L') (hg : ∀ k, va'.ownBlock = some k → va.ownBlock = some k ∨ w.heap.size ≤ k) :
    Has w0 F0 (pfinR fb hb va' qa ws kd ds L' Q) (w1.setCell ⟨fb, 1, none⟩ va') := by
  have h1 := (mid_turn h.swap.comm K hm hg).comm.swap
  have hb1 : w1.heap[fb]? = some (pfObj hb va qa) := h1.fst.fst.fst.fact (fun _ h => h.2)
  have h2 := h1.assoc.assoc.setB (o' := pfObj hb va' qa) (Keep.setCell (S := [fb]) w1 (a := ⟨fb, 1, none⟩) va' (by simp)) (by
    have e := heap_setCell_same w1 fb 1 _ _ va' hb1
    simpa [pfObj] using e)
  exact h2.assoc'.assoc'
/-- What is pending is another list. -/
theorem Has.pfset2 {w1 : World} {qa' : Value} {Q' : List Int} (h : Has w0 F0 (pfinR fb hb va qa ws kd ds L Q) w) (K : Keep qa.ownBlock.toList w w1) (hm : IsMid w1 3 qa' Q') (hg : ∀ k, qa'.ownBlock = some k → qa.ownBlock = some k ∨ w.heap.size ≤ k) :
    Has w0 F0 (pfinR fb hb va qa' ws kd ds L Q') (w1.setCell ⟨fb, 2, none⟩ qa') := by
  have h1 := (mid_turn h.comm K hm hg).comm
  have hb1 : w1.heap[fb]? = some (pfObj hb va qa) := h1.fst.fst.fst.fact (fun _ h => h.2)
  have h2 := h1.assoc.assoc.setB (o' := pfObj hb va qa') (Keep.setCell (S := [fb]) w1 (a := ⟨fb, 2, none⟩) qa' (by simp)) (by
    have e := heap_setCell_same w1 fb 2 _ _ qa' hb1
    simpa [pfObj] using e)
  exact h2.assoc'.assoc'
/-- The finals' block is none of a list's, and neither list lies in the other's. -/
theorem Has.pffar (h : Has w0 F0 (pfinR fb hb va qa ws kd ds L Q) w) : va.ownBlock ≠ some fb ∧ qa.ownBlock ≠ some fb := by
  obtain ⟨F, ⟨F1, F2, _, ⟨F3, F4, hF1, ⟨F5, F6, hF3, h5, _, _⟩, h4, hd1⟩, h2, hd⟩, _⟩ := h
  have e5 : fb ∈ F3 := (hF3 fb).2 (.inl (by rw [h5.1]; simp))
  refine ⟨fun e => hd1 fb e5 (by rw [h4.1, e]; simp), fun e => hd fb ((hF1 fb).2 (.inl e5)) (by rw [h2.1, e]; simp)⟩

theorem Has.pfkeep1 {w1 : World} (h : Has w0 F0 (pfinR fb hb va qa ws kd ds L Q) w) (K : Keep va.ownBlock.toList w w1) : w1.heap[fb]? = some (pfObj hb va qa) := K.blk h.pfcells (by
  have := h.pffar.1
  simpa using fun e => this e)
theorem Has.pfkeep2 {w1 : World} (h : Has w0 F0 (pfinR fb hb va qa ws kd ds L Q) w) (K : Keep qa.ownBlock.toList w w1) : w1.heap[fb]? = some (pfObj hb va qa) := K.blk h.pfcells (by
  have := h.pffar.2
  simpa using fun e => this e)

set_option maxRecDepth 100000 in
set_option maxHeartbeats 1600000 in
theorem pfnew (w : World) (h : Has w0 F0 (heapA hb ws kd ds) w) :
    Calls Tryz.prog 23 #[.pointer (some ⟨hb, 0, none⟩)] w fun e w' => ∃ fb, e = .returned (.pointer (some ⟨fb, 0, none⟩)) ∧ Has w0 F0 (pfinA fb hb ws kd ds [] []) w' := by
  have HX := hid h
  clear h
  go_enter Tryz.func23, Tryz.ntmps23
  go_wp2_with fail
  go_ret
  have h1 := HX.out.newB (pfObj hb (.slice none 0 0) (.slice none 0 0))
  have h2 : Has w0 F0 ((blockA w.heap.size (pfObj hb (.slice none 0 0) (.slice none 0 0))).star (heapA hb ws kd ds)) _ := h1.comm
  have h3 := h2.more (Keep.refl [] _) (B := midA 3 (.slice none 0 0) []) (G := []) ⟨rfl, IsMid.nil _ _⟩ (fun k hk => by cases hk)
  have h4 := h3.more (Keep.refl [] _) (B := midA 3 (.slice none 0 0) []) (G := []) ⟨rfl, IsMid.nil _ _⟩ (fun k hk => by cases hk)
  exact ⟨_, rfl, Has.pfin h4 (fun i => by simp) (fun i => by simp)⟩
set_option maxRecDepth 100000 in
theorem pfnew_nil (w : World) :
    Calls Tryz.prog 23 #[.pointer none] w fun e w' => e = .returned (.pointer none) ∧ Keep [] w w' := by
  go_enter Tryz.func23, Tryz.ntmps23
  go_wp2_with fail
  go_ret
  exact ⟨rfl, Keep.refl _ _⟩
set_option maxRecDepth 100000 in
set_option maxHeartbeats 1600000 in
theorem pfawait (a E : Int) (ws' : List Int) (w : World) (h : Has w0 F0 (pfinA fb hb ws kd ds L Q) w) (hT : FinalT kd ws a E ws') (ha : inI a) (hl : L.length ≤ 1000) :
    Calls Tryz.prog 8 #[.pointer (some ⟨fb, 0, none⟩), .int .i64 a] w fun e w' => e = .returned (.int .i64 E) ∧ Has w0 F0 (pfinA fb hb ws' kd ds (awaitL E L a) Q) w' := by
  obtain ⟨va, qa, hX, e1, e2⟩ := h.pfraw
  obtain ⟨c0, _⟩ := pfobj_cells hX.pfcells
  have HX := hid hX
  have HT := hid hT
  have HE := (show Hid (inR L ∧ inR Q ∧ inI a) from ⟨e1, e2, ha⟩)
  clear h hX hT e1 e2 ha
  go_enter Tryz.func8, Tryz.ntmps8
  go_wp2_with fail
  refine (has_left HX.out.assoc.assoc.comm (fun F hF => has_left hF (fun F hF => ofinal a E ws' _ hF HT.out))).mono ?_
  rintro e w1 ⟨rfl, hX1⟩
  have HX1 := (show Hid (Has w0 F0 (pfinR fb hb va qa ws' kd ds L Q) w1) from hX1.comm.assoc'.assoc')
  clear hX1 c0
  by_cases hE : E = 0
  · subst hE
    obtain ⟨i0, hi, hz0, hz1, hz2⟩ := info_parts Tryz.infoIntF
    have hI : Hid (Tryz.prog.info? 3 = some i0 ∧ i0.zero = some (.int .i64 0) ∧ i0.size = 1 ∧ i0.bytes = 8) := ⟨hi, hz0, hz1, hz2⟩
    clear hi hz0 hz1 hz2
    obtain ⟨_, c1, _, _, _⟩ := pfobj_cells HX1.out.pfcells
    have HX2 := (show Hid (Has w0 F0 (pfinR fb hb va qa ws' kd ds L Q) (w1.alloc (.cells #[.int .i64 a] 3))) from HX1.out.keep0 (Keep.alloc [] w1 _))
    go_wp2_with (first
      | (at_builtin; refine wpList_append_mid _ rfl (.tmp 21) (.tmp 23) 23 rfl 3 i0 Tryz.underlying23 hI.out va L rfl HX2.out.pfmid1 w1.heap.size a 1 rfl (cell_of_one (heap_alloc_new _ _)) (by omega) ?_; intro v5 w5 hm5 hK5 hg5; obtain ⟨l5, c5, rfl⟩ := hm5.form; have HF := (show Hid (Has w0 F0 (pfinR fb hb (.slice l5 (L ++ [a]).length c5) qa ws' kd ds (L ++ [a]) Q) (w5.setCell ⟨fb, 1, none⟩ (.slice l5 (L ++ [a]).length c5))) from HX2.out.pfset1 hK5 hm5 hg5); obtain ⟨_, _, _, f1, _⟩ := pfobj_cells (HX2.out.pfkeep1 hK5); have c1' := (pfobj_cells (HX2.out.pfkeep1 hK5)).2.1; clear hK5 hg5 hm5))
    go_ret
    refine ⟨rfl, ?_⟩
    rw [show awaitL 0 L a = L ++ [a] from if_pos rfl, show L.length + 1 = (L ++ [a]).length by simp]
    exact HF.out.pfin (inR_snoc HE.out.1 HE.out.2.2) HE.out.2.1
  · have hd : (E == 0) = false := by simpa using hE
    have HL := (show Hid (awaitL E L a = L) from if_neg hE)
    go_wp2_with fail
    go_ret
    rw [HL.out]
    exact ⟨rfl, HX1.out.pfin HE.out.1 HE.out.2.1⟩
set_option maxRecDepth 100000 in
theorem pfawait_nil (a : Int) (w : World) :
    Calls Tryz.prog 8 #[.pointer none, .int .i64 a] w fun e w' => e = .returned (.int .i64 2) ∧ Keep [] w w' := by
  go_enter Tryz.func8, Tryz.ntmps8
  go_wp2_with fail
  go_ret
  exact ⟨rfl, Keep.refl _ _⟩
theorem Has.pfin_in (h : Has w0 F0 (pfinA fb hb ws kd ds L Q) w) : inR L ∧ inR Q := by
  obtain ⟨va, qa, _, h1, h2⟩ := h.pfraw
  exact ⟨h1, h2⟩
set_option maxRecDepth 100000 in
set_option maxHeartbeats 1600000 in
theorem pffinals (w : World) (h : Has w0 F0 (pfinA fb hb ws kd ds L Q) w) (hl : L.length ≤ 1000) :
    Calls Tryz.prog 15 #[.pointer (some ⟨fb, 0, none⟩)] w fun e w' => ∃ (v : Value) (m : Nat), e = .returned v ∧ w'.ownsRow w.heap.size 3 1 v m (ints L) ∧ Keep [] w w' := by
  obtain ⟨va, qa, hX, e1, _⟩ := h.pfraw
  obtain ⟨_, c1, _⟩ := pfobj_cells hX.pfcells
  have hm := hX.pfmid1
  obtain ⟨la, ca, rfl⟩ := hm.form
  obtain ⟨g1, g2, g3, _⟩ := hm.ints e1
  have HG := (show Hid (IntsAt w la L ∧ (la = none → ca = 0)) from ⟨g1, g3⟩)
  obtain ⟨n, hn⟩ : ∃ n, L.length = n := ⟨_, rfl⟩
  rw [hn] at c1 hl
  have HN := hid hn
  clear h hX e1 hm g1 g2 g3 hn
  go_enter Tryz.func15, Tryz.ntmps15
  go_wp2_with fail
  refine (lclone la ca w HG.out.1 HN.out (by omega) HG.out.2).mono ?_
  rintro e w1 ⟨v', rfl, ho, hK⟩
  have HO := (show Hid (w1.ownsRow w.heap.size 3 1 v' n (ints L) ∧ Keep [] w w1) from ⟨ho, hK⟩)
  clear ho hK c1
  go_wp2_with fail
  go_ret
  exact ⟨v', n, rfl, HO.out.1, HO.out.2⟩
set_option maxRecDepth 100000 in
theorem pffinals_nil (w : World) :
    Calls Tryz.prog 15 #[.pointer none] w fun e w' => e = .returned (.slice none 0 0) ∧ Keep [] w w' := by
  go_enter Tryz.func15, Tryz.ntmps15
  go_wp2_with fail
  go_ret
  exact ⟨rfl, Keep.refl _ _⟩
set_option maxRecDepth 100000 in
set_option maxHeartbeats 1600000 in
theorem pfpending (w : World) (h : Has w0 F0 (pfinA fb hb ws kd ds L Q) w) (hl : Q.length ≤ 1000) :
    Calls Tryz.prog 16 #[.pointer (some ⟨fb, 0, none⟩)] w fun e w' => ∃ (v : Value) (m : Nat), e = .returned v ∧ w'.ownsRow w.heap.size 3 1 v m (ints Q) ∧ Keep [] w w' := by
  obtain ⟨va, qa, hX, _, e1⟩ := h.pfraw
  obtain ⟨_, _, c2, _⟩ := pfobj_cells hX.pfcells
  have hm := hX.pfmid2
  obtain ⟨la, ca, rfl⟩ := hm.form
  obtain ⟨g1, g2, g3, _⟩ := hm.ints e1
  have HG := (show Hid (IntsAt w la Q ∧ (la = none → ca = 0)) from ⟨g1, g3⟩)
  obtain ⟨n, hn⟩ : ∃ n, Q.length = n := ⟨_, rfl⟩
  rw [hn] at c2 hl
  have HN := hid hn
  clear h hX e1 hm g1 g2 g3 hn
  go_enter Tryz.func16, Tryz.ntmps16
  go_wp2_with fail
  refine (lclone la ca w HG.out.1 HN.out (by omega) HG.out.2).mono ?_
  rintro e w1 ⟨v', rfl, ho, hK⟩
  have HO := (show Hid (w1.ownsRow w.heap.size 3 1 v' n (ints Q) ∧ Keep [] w w1) from ⟨ho, hK⟩)
  clear ho hK c2
  go_wp2_with fail
  go_ret
  exact ⟨v', n, rfl, HO.out.1, HO.out.2⟩
set_option maxRecDepth 100000 in
theorem pfpending_nil (w : World) :
    Calls Tryz.prog 16 #[.pointer none] w fun e w' => e = .returned (.slice none 0 0) ∧ Keep [] w w' := by
  go_enter Tryz.func16, Tryz.ntmps16
  go_wp2_with fail
  go_ret
  exact ⟨rfl, Keep.refl _ _⟩
/-- A set of one's own. -/
def setA (b n : Nat) (p : Int → Bool) : Asn where
  at' w F := F = [b] ∧ SetAt w b n p
  keep := fun h K hS => ⟨h.1, h.2.keep K (hS _ (by rw [h.1]; simp))⟩
  lt := fun h k hk => by rw [h.1] at hk; simp at hk; subst hk; exact h.2.lt
theorem set_turn {w w' : World} {A : Asn} {b n : Nat} {p p' : Int → Bool} (h : Has w0 F0 (A.star (setA b n p)) w) (K : Keep [b] w w') (hS : SetAt w' b n p') : Has w0 F0 (A.star (setA b n p')) w' :=
  (Has.left (A' := setA b n p') h.comm (fun F hF => ⟨[b], ⟨rfl, hS⟩, by rw [hF.1]; exact K, fun k e => by rw [hF.1]; exact .inl e⟩)).comm
def boxO (mb : Nat) : Obj := .cells #[.map (some mb)] 71 (0, 0)
/-- What Pend has at hand: the finals, what it is told, the set of those that wait, and the variable that leads to it. -/
def pendA (fb hb : Nat) (va qa : Value) (ws : List Int) (kd : List PK) (ds : List (Int × List Int)) (L Q : List Int) (B : Asn) (mb m : Nat) (p : Int → Bool) (cb : Nat) : Asn :=
  (((pfinR fb hb va qa ws kd ds L Q).star B).star (setA mb m p)).star (blockA cb (boxO mb))
section
variable {B : Asn} {mb m cb : Nat} {p : Int → Bool}
theorem Has.pdbox (h : Has w0 F0 (pendA fb hb va qa ws kd ds L Q B mb m p cb) w) : w.cell? ⟨cb, 0, none⟩ = some (.map (some mb)) ∧ cb < w.heap.size := by
  have h1 : w.heap[cb]? = some (boxO mb) := h.snd.fact (fun _ h => h.2)
  exact ⟨by simp [World.cell?, h1, boxO], lt_of_block h1⟩
theorem Has.pdset (h : Has w0 F0 (pendA fb hb va qa ws kd ds L Q B mb m p cb) w) : SetAt w mb m p := h.fst.snd.fact (fun _ h => h.2)
theorem Has.pdfin (h : Has w0 F0 (pendA fb hb va qa ws kd ds L Q B mb m p cb) w) : Has w0 F0 (pfinR fb hb va qa ws kd ds L Q) w := h.fst.fst.fst
theorem Has.pddel {w' : World} {p' : Int → Bool} (h : Has w0 F0 (pendA fb hb va qa ws kd ds L Q B mb m p cb) w) (K : Keep [mb] w w') (hS : SetAt w' mb m p') : Has w0 F0 (pendA fb hb va qa ws kd ds L Q B mb m p' cb) w' :=
  Has.left h (fun _ hF => set_turn (Has.start hF) K hS)
theorem Has.pdset2 {w1 : World} {qa' : Value} {Q' : List Int} (h : Has w0 F0 (pendA fb hb va qa ws kd ds L Q B mb m p cb) w) (K : Keep qa.ownBlock.toList w w1) (hm : IsMid w1 3 qa' Q') (hg : ∀ k, qa'.ownBlock = some k → qa.ownBlock = some k ∨ w.heap.size ≤ k) :
    Has w0 F0 (pendA fb hb va qa' ws kd ds L Q' B mb m p cb) (w1.setCell ⟨fb, 2, none⟩ qa') :=
  Has.left h (fun _ hF => Has.left (Has.start hF) (fun _ hF => Has.left (Has.start hF) (fun _ hF => Has.pfset2 (Has.start hF) K hm hg)))
theorem Has.pdset1 {w1 : World} {va' : Value} {L' : List Int} (h : Has w0 F0 (pendA fb hb va qa ws kd ds L Q B mb m p cb) w) (K : Keep va.ownBlock.toList w w1) (hm : IsMid w1 3 va' L') (hg : ∀ k, va'.ownBlock = some k → va.ownBlock = some k ∨ w.heap.size ≤ k) :
    Has w0 F0 (pendA fb hb va' qa ws kd ds L' Q B mb m p cb) (w1.setCell ⟨fb, 1, none⟩ va') :=
  Has.left h (fun _ hF => Has.left (Has.start hF) (fun _ hF => Has.left (Has.start hF) (fun _ hF => Has.pfset1 (Has.start hF) K hm hg)))
theorem Has.pdout (h : Has w0 F0 (pendA fb hb va qa ws kd ds L Q B mb m p cb) w) (h1 : inR L) (h2 : inR Q) : Has w0 F0 ((pfinA fb hb ws kd ds L Q).star B) w :=
  Has.left h.fst.fst (fun _ hF => Has.pfin (Has.start hF) h1 h2)
theorem Has.pdfar (h : Has w0 F0 (pendA fb hb va qa ws kd ds L Q B mb m p cb) w) : ∀ k, va.ownBlock = some k → k ≠ cb ∧ k ≠ mb := by
  intro k hk
  obtain ⟨F, ⟨F1, F2, _, ⟨F3, F4, hF1, ⟨F5, F6, hF3, ⟨F7, F8, hF5, ⟨F9, F10, hF7, _, h10, _⟩, _, _⟩, _, _⟩, h4, hd1⟩, h2, hd⟩, _⟩ := h
  have e10 : k ∈ F3 := (hF3 k).2 (.inl ((hF5 k).2 (.inl ((hF7 k).2 (.inr (by rw [h10.1, hk]; simp))))))
  refine ⟨fun e => hd k ((hF1 k).2 (.inl e10)) (by rw [h2.1, e]; simp), fun e => hd1 k e10 (by rw [h4.1, e]; simp)⟩
end

theorem inL_without (L : List Int) (x y : Int) : (decide (y ≠ x) && inL L y) = inL (withoutL L x) y := by
  unfold inL withoutL
  rw [← Bool.decide_and]
  refine decide_eq_decide.2 ?_
  rw [List.mem_filter]
  simp [and_comm]
theorem pendL_filter (L : List Int) (M : List Int) : ∀ s : List Int × List Int, (∃ q, s.1 = L.filter q) → ∃ q, (M.foldl pend1 s).1 = L.filter q := by
  induction M with
  | nil => intro s h; exact h
  | cons x M ih =>
    intro s h
    rw [List.foldl_cons]
    refine ih _ ?_
    unfold pend1
    split
    · obtain ⟨q, e⟩ := h
      exact ⟨fun y => decide (y ≠ x) && q y, by simp only [e, withoutL, List.filter_filter]⟩
    · exact h
/-- Those of L that still wait are L's, in order. -/
theorem pendL_stay (L Q M : List Int) : L.filter (inL (pendL L Q M).1) = (pendL L Q M).1 := by
  obtain ⟨q, e⟩ := pendL_filter L M (L, Q) ⟨fun _ => true, (List.filter_eq_self.2 (fun _ _ => rfl)).symm⟩
  have e' : (pendL L Q M).1 = L.filter q := e
  rw [e']
  refine List.filter_congr (fun x hx => ?_)
  unfold inL
  cases hq : q x
  · exact decide_eq_false (fun h => by rw [List.mem_filter, hq] at h; simp at h)
  · exact decide_eq_true (List.mem_filter.2 ⟨hx, hq⟩)
theorem inR_filter {L : List Int} (h : inR L) (q : Int → Bool) : inR (L.filter q) := by
  intro i
  by_cases hi : i < (L.filter q).length
  · have hm : (L.filter q)[i]?.getD 0 ∈ L := by
      rw [List.getElem?_eq_getElem hi]
      exact (List.mem_filter.1 (List.getElem_mem hi)).1
    obtain ⟨t, ht, e⟩ := List.getElem_of_mem hm
    have := h t
    rw [List.getElem?_eq_getElem ht, e] at this
    exact this
  · rw [List.getElem?_eq_none (by omega)]; simp

set_option maxRecDepth 100000 in
set_option maxHeartbeats 6400000 in
theorem pfpend {B : Asn} (ao : Option Addr) (n ca : Nat) (M : List Int) (w : World) (h : Has w0 F0 ((pfinA fb hb ws kd ds L Q).star B) w) (hB : ∀ w F, B.at' w F → IntsAt w ao M) (hn : M.length = n) (hl : L.length ≤ 500) (hq : Q.length + n ≤ 500) (_ : L.Nodup) :
    Calls Tryz.prog 10 #[.pointer (some ⟨fb, 0, none⟩), .slice ao n ca] w fun e w' => e = .returned (.tuple #[]) ∧ Has w0 F0 ((pfinA fb hb ws kd ds (pendL L Q M).1 (pendL L Q M).2).star B) w' := by
  obtain ⟨va, qa, hX, e1, e2⟩ : ∃ va qa, Has w0 F0 ((pfinR fb hb va qa ws kd ds L Q).star B) w ∧ inR L ∧ inR Q := by
    obtain ⟨F, ⟨F1, F2, hF, ⟨va, qa, h1, h2, h3⟩, hb, hd⟩, u⟩ := h
    exact ⟨va, qa, ⟨F, ⟨F1, F2, hF, h1, hb, hd⟩, u⟩, h2, h3⟩
  obtain ⟨_, c1, _⟩ := pfobj_cells hX.fst.pfcells
  have hm := hX.fst.pfmid1
  obtain ⟨la, lc, rfl⟩ := hm.form
  obtain ⟨g1, _, _, _⟩ := hm.ints e1
  obtain ⟨i0, hi, hz0, hz1, hz2⟩ := info_parts Tryz.infoIntF
  have hI : Hid (Tryz.prog.info? 3 = some i0 ∧ i0.zero = some (.int .i64 0) ∧ i0.size = 1 ∧ i0.bytes = 8) := ⟨hi, hz0, hz1, hz2⟩
  obtain ⟨m, hm0⟩ : ∃ m, L.length = m := ⟨_, rfl⟩
  rw [hm0] at c1 hl hX
  have HA := hid g1
  have HM0 := hid hm0
  have HX := hid hX
  have HR := (show Hid (inR L ∧ inR Q) from ⟨e1, e2⟩)
  have HB := hid hB
  have HN := hid hn
  have HLE := (show Hid (∀ j, (pendL L Q (M.take j)).2.length ≤ 500) from fun j => by have := (pendL_le L Q (M.take j)).2; rw [List.length_take] at this; omega)
  clear h hX e1 e2 hB hn hm g1 hm0 hi hz0 hz1 hz2
  go_enter Tryz.func10, Tryz.ntmps10
  go_wp2_with fail
  refine (psetof la m lc L w HA.out HM0.out (by omega)).mono ?_
  rintro e w1 ⟨rfl, hS1, hK1, hlt1⟩
  have HX1 := (show Hid (Has w0 F0 (((pfinR fb hb (.slice la m lc) qa ws kd ds L Q).star B).star (setA w.heap.size m (inL L))) w1) from HX.out.more hK1 (B := setA w.heap.size m (inL L)) (G := [w.heap.size]) ⟨rfl, hS1⟩ (fun k hk => by simp at hk; omega))
  clear hS1 hK1 hlt1 c1
  generalize w.heap.size = mb at *
  have HX2 := (show Hid (Has w0 F0 (pendA fb hb (.slice la m lc) qa ws kd ds L Q B mb m (inL L) w1.heap.size) (w1.alloc (boxO mb))) from HX1.out.newB (boxO mb))
  clear HX1
  unfold boxO at HX2
  go_wp2_with fail
  go_loopw [16] (fun i wr => ∃ (j : Nat) (qj : Value), i = .int .i64 j ∧ j ≤ n ∧ Hid (Has w0 F0 (pendA fb hb (.slice la m lc) qj ws kd ds L (pendL L Q (M.take j)).2 B mb m (inL (pendL L Q (M.take j)).1) w1.heap.size) wr) ∧ Hid (inR (pendL L Q (M.take j)).2)) (fun i _ => n - (intOf i).toNat)
  case atStart => exact ⟨0, qa, rfl, by omega, HX2.out, HR.out.2⟩
  case round =>
    obtain ⟨j, qj, rfl, hj, HX3, HQ3⟩ := hrel
    generalize w1.heap.size = cb at *
    by_cases hlt : j < n
    · have hd : decide (j < n) = true := decide_eq_true hlt
      have hA2 : IntsAt wr ao M := HX3.out.fst.fst.snd.fact (fun F h => HB.out _ F h)
      obtain ⟨b, off, rfl, _, hcs⟩ := hA2.cells (by have := HN.out; omega)
      have hcx := hcs j (by have := HN.out; omega)
      have HIx := (show Hid (inI (M[j]?.getD 0)) from ⟨hA2.low j, hA2.high j⟩)
      have HP := (show Hid (pendL L Q (M.take (j + 1)) = pend1 (pendL L Q (M.take j)) (M[j]?.getD 0)) from pendL_snoc L Q M j (by have := HN.out; omega))
      have HL3 := hid (HLE.out j)
      clear hcs hA2
      generalize M[j]?.getD 0 = x at *
      generalize pendL L Q (M.take j) = s at *
      obtain ⟨L3, Q3⟩ := s
      obtain ⟨hcb, _⟩ := HX3.out.pdbox
      go_wp2_with fail
      refine (psethas mb m (inL L3) x wr HX3.out.pdset HIx.out).mono ?_
      rintro e w4 ⟨rfl, hK4⟩
      have HX4 := (show Hid (Has w0 F0 (pendA fb hb (.slice la m lc) qj ws kd ds L Q3 B mb m (inL L3) cb) w4) from HX3.out.keep0 hK4)
      clear hK4 hcb hcx
      obtain ⟨hcb, _⟩ := HX4.out.pdbox
      cases hin : inL L3 x with
      | false =>
        go_wp2_with fail
        go_roundw
        case rel =>
          refine ⟨j + 1, qj, by go_num, by omega, ?_, ?_⟩
          · rw [HP.out, show pend1 (L3, Q3) x = (L3, Q3) by simp [pend1, hin]]; exact HX4.out
          · rw [HP.out, show pend1 (L3, Q3) x = (L3, Q3) by simp [pend1, hin]]; exact HQ3.out
        case measure => simp [intOf]; omega
      | true =>
        have hp2 : pendL L Q (M.take (j + 1)) = (withoutL L3 x, Q3 ++ [x]) := by rw [HP.out]; simp [pend1, hin]
        have HP2 := hid hp2
        clear hp2
        obtain ⟨D, hown, hD⟩ := HX4.out.pdset
        have HD := hid hD
        clear hD
        go_wp2_with (first
          | (at_delete; refine wpList_delete_own _ rfl _ _ 71 3 rfl 110 setKeyed Tryz.underlying71 (unitElem (H := Unit)) mb m D rfl hown _ _ rfl (setKey HIx.out) ?_; intro w5 hown5 hturn5; have HX5 := (show Hid (Has w0 F0 (pendA fb hb (.slice la m lc) qj ws kd ds L Q3 B mb m (inL (withoutL L3 x)) cb) w5) from HX4.out.pddel (keep_turned hturn5) ((SetAt.del HD.out hown5).congr (fun y _ => inL_without L3 x y))); have c5 := (pfobj_cells HX5.out.pdfin.pfcells).2.2.1; have hcb5 := HX5.out.pdbox.1; have HX6 := (show Hid (Has w0 F0 (pendA fb hb (.slice la m lc) qj ws kd ds L Q3 B mb m (inL (withoutL L3 x)) cb) (w5.alloc (.cells #[.int .i64 x] 3))) from HX5.out.keep0 (Keep.alloc [] w5 _)); clear hown5 hturn5)
          | (at_builtin; refine wpList_append_mid _ rfl (.tmp 29) (.tmp 31) 23 rfl 3 i0 Tryz.underlying23 hI.out qj Q3 rfl HX6.out.pdfin.pfmid2 w5.heap.size x 1 rfl (cell_of_one (heap_alloc_new _ _)) (by have := HL3.out; omega) ?_; intro v7 w7 hm7 hK7 hg7; obtain ⟨l7, c7, rfl⟩ := hm7.form; have HF := (show Hid (Has w0 F0 (pendA fb hb (.slice la m lc) (.slice l7 (Q3 ++ [x]).length c7) ws kd ds L (Q3 ++ [x]) B mb m (inL (withoutL L3 x)) cb) (w7.setCell ⟨fb, 2, none⟩ (.slice l7 (Q3 ++ [x]).length c7))) from HX6.out.pdset2 hK7 hm7 hg7); have hk8 := pfobj_cells (HX6.out.pdfin.pfkeep2 hK7); have f8 := hk8.2.2.2.2; have c8 := hk8.2.2.1; clear hk8 hK7 hg7 hm7))
        go_roundw
        case rel =>
          have hF := HF.out
          rw [List.length_append, List.length_singleton] at hF
          refine ⟨j + 1, .slice l7 (Q3.length + 1) c7, by go_num, by omega, ?_, ?_⟩
          · rw [HP2.out]; exact hF
          · rw [HP2.out]; exact inR_snoc HQ3.out HIx.out
        case measure => simp [intOf]; omega
    · obtain rfl : j = n := by omega
      have hd : decide (j < j) = false := decide_eq_false (by omega)
      rw [show M.take j = M from List.take_of_length_le (by rw [HN.out]; exact Nat.le_refl _)] at HX3 HQ3
      obtain ⟨hcb, hcbl⟩ := HX3.out.pdbox
      obtain ⟨_, c1, _⟩ := pfobj_cells HX3.out.pdfin.pfcells
      have hpd := pdelf la m lc L cb mb m (inL (pendL L Q M).1) wr HX3.out.pdfin.pfmid1 HR.out.1 (by omega) hcb HX3.out.pdset hcbl HX3.out.pdfar
      have HPD := hid hpd
      clear hcb hcbl hpd
      go_wp2_with fail
      refine HPD.out.mono ?_
      rintro e w5 ⟨n', rfl, hm5, hK5⟩
      rw [pendL_stay] at hm5
      have hk8 := pfobj_cells (HX3.out.pdfin.pfkeep1 hK5)
      have f8 := hk8.2.2.2.1
      have c8 := hk8.2.1
      have HF := (show Hid (Has w0 F0 (pendA fb hb (.slice la n' lc) qj ws kd ds (pendL L Q M).1 (pendL L Q M).2 B mb m (inL (pendL L Q M).1) cb) (w5.setCell ⟨fb, 1, none⟩ (.slice la n' lc))) from HX3.out.pdset1 hK5 hm5 (fun k e => .inl (by cases la <;> exact e)))
      clear hk8 hK5 hm5 c1
      go_wp2_with fail
      go_end0
      refine ⟨rfl, HF.out.pdout ?_ HQ3.out⟩
      rw [← pendL_stay]
      exact inR_filter HR.out.1 _
set_option maxRecDepth 100000 in
theorem pfpend_nil (ao : Option Addr) (n ca : Nat) (w : World) :
    Calls Tryz.prog 10 #[.pointer none, .slice ao n ca] w fun e w' => e = .returned (.tuple #[]) ∧ Keep [] w w' := by
  go_enter Tryz.func10, Tryz.ntmps10
  go_wp2_with fail
  refine bodyPost_ret (results_none rfl _ _ _) rfl ?_
  exact ⟨rfl, Keep.refl _ _⟩
set_option maxRecDepth 100000 in
set_option maxHeartbeats 3200000 in
theorem pftake (i N E : Int) (Q' : List Int) (w : World) (h : Has w0 F0 (pfinA fb hb ws kd ds L Q) w) (hT : TakeT Q i N E Q') (hi : inI i) (hq : Q.length ≤ 500) :
    Calls Tryz.prog 12 #[.pointer (some ⟨fb, 0, none⟩), .int .i64 i] w fun e w' => e = .returned (.tuple #[.int .i64 N, .int .i64 E]) ∧ Has w0 F0 (pfinA fb hb ws kd ds L Q') w' := by
  obtain ⟨va, qa, hX, e1, e2⟩ := h.pfraw
  obtain ⟨_, _, c2, _, f2⟩ := pfobj_cells hX.pfcells
  have hm := hX.pfmid2
  obtain ⟨la, ca, rfl⟩ := hm.form
  obtain ⟨g1, _, _, hcap⟩ := hm.ints e2
  have hcm : ca ≤ 9223372036854775807 := by
    have := hm.capR
    unfold maxLen at this; omega
  have HX := hid hX
  have HR := (show Hid (inR L ∧ inR Q) from ⟨e1, e2⟩)
  have HH := (show Hid (Has w0 F0 (pfinA fb hb ws kd ds L Q) w) from h)
  have HA := hid g1
  obtain ⟨n, hn⟩ : ∃ n, Q.length = n := ⟨_, rfl⟩
  rw [hn] at c2 hq hcap hm
  have HN := hid hn
  have HM := hid hm
  clear h hX e1 e2 hm g1
  cases hT with
  | no hno =>
    rw [hn] at hno
    clear hn
    by_cases h0 : i < 0
    · go_enter Tryz.func12, Tryz.ntmps12
      go_wp2_with fail
      go_ret2
      exact ⟨rfl, HH.out⟩
    · have hle : (n : Int) ≤ i := by omega
      clear hno
      go_enter Tryz.func12, Tryz.ntmps12
      go_wp2_with fail
      go_ret2
      exact ⟨rfl, HH.out⟩
  | yes j e hj =>
    subst e
    rw [hn] at hj
    clear hn
    obtain ⟨b, off, rfl, _, hcs⟩ := HA.out.cells (by have := HN.out; omega)
    have hcj := hcs j (by have := HN.out; omega)
    clear hcs
    generalize Q[j]?.getD 0 = x at *
    have hlt : (j : Int) < (n : Int) := by omega
    have hd : decide ((j : Int) < 0) = false := decide_eq_false (by omega)
    have hd2 : decide ((n : Int) ≤ (j : Int)) = false := decide_eq_false (by omega)
    go_enter Tryz.func12, Tryz.ntmps12
    go_wp2_with fail
    refine (sdelete j w HM.out hj).mono ?_
    rintro e w1 ⟨g, o, e3, rfl, hm1, hK1⟩
    cases e3
    have HF := (show Hid (Has w0 F0 (pfinR fb hb va (.slice (some ⟨b, off, none⟩) (n - 1) ca) ws kd ds L (Q.take j ++ Q.drop (j + 1))) (w1.setCell ⟨fb, 2, none⟩ (.slice (some ⟨b, off, none⟩) (n - 1) ca))) from HX.out.pfset2 hK1 hm1 (fun k e => .inl e))
    obtain ⟨_, _, _, _, f2⟩ := pfobj_cells (HX.out.pfkeep2 hK1)
    have c2' := (pfobj_cells (HX.out.pfkeep2 hK1)).2.2.1
    clear hK1 hm1
    go_wp2_with fail
    go_ret2
    exact ⟨rfl, HF.out.pfin HR.out.1 (inR_cut HR.out.2 j)⟩
set_option maxRecDepth 100000 in
theorem pftake_nil (i : Int) (w : World) :
    Calls Tryz.prog 12 #[.pointer none, .int .i64 i] w fun e w' => e = .returned (.tuple #[.int .i64 0, .int .i64 1]) ∧ Keep [] w w' := by
  go_enter Tryz.func12, Tryz.ntmps12
  go_wp2_with fail
  go_ret2
  exact ⟨rfl, Keep.refl _ _⟩
end

end Go.Proofs.YtjlbfojbgnhhbaaGreat

/-
  Made and awake of gloaminglaw15: finals of a heap with some objects of numbers, and a reference.
-/
namespace Go.Proofs.YtjlbfojbgnhhbaaGreat
open Go.RowKit

theorem GChain.aBd {n : Nat} {W : Nat → List Int} {K : Nat → List PK} {A : Nat → Nat} (h : GChain (n + 1) (kkF n) (ccF n) (llF n) W K A) (q : Nat) (hq : q ≤ n + 1) : inR (aL A q) := by
  intro i
  by_cases hi : i < q
  · rw [aL_get A q i hi]; have := h.os.bd i (by omega); omega
  · rw [List.getElem?_eq_none (by rw [aL_length]; omega)]; simp

set_option maxRecDepth 100000 in
set_option maxHeartbeats 6400000 in
theorem made15 (n : Nat) {W : Nat → List Int} {K : Nat → List PK} {A : Nat → Nat} (hC : GChain (n + 1) (kkF n) (ccF n) (llF n) W K A) (hn : n ≤ 20) (w : World) :
    Calls Tryz.prog 4 #[.int .i64 n] w fun e w' => ∃ hb fb la lc, e = .returned (.tuple #[.pointer (some ⟨hb, 0, none⟩), .pointer (some ⟨fb, 0, none⟩), .slice la (n + 1) lc]) ∧ n + 1 ≤ lc ∧ Has w [] ((pfinA fb hb (W (n + 1)) (K (n + 1)) [] [] []).star (listA la (aL A (n + 1)))) w' := by
  obtain ⟨i0, hi, hz0, hz1, hz2⟩ := info_parts Tryz.infoInt
  have hI : Hid (Tryz.prog.info? 3 = some i0 ∧ i0.zero = some (.int .i64 0) ∧ i0.size = 1 ∧ i0.bytes = 8) := ⟨hi, hz0, hz1, hz2⟩
  clear hi hz0 hz1 hz2
  have HC := hid hC
  clear hC
  go_enter Tryz.func4, Tryz.ntmps4
  go_wp2_with fail
  refine (onew_has 40 _ (by omega) (by omega)).mono ?_
  rintro e w1 ⟨hb, rfl, hH⟩
  have HH := (show Hid (Has w [] (heapA hb (zeros (64 * 40)) (freshK 40) []) w1) from hH)
  clear hH
  go_wp2_with (first | (go_at_call 22; refine (owhole _ HH.out).mono ?_; rintro e w' ⟨rfl, rfl⟩) | (go_at_call 7; refine (err_any _ _).mono ?_; rintro e w' ⟨rfl, rfl⟩))
  refine (pfnew _ HH.out).mono ?_
  rintro e w2 ⟨fb, rfl, hP⟩
  have HX0 := (show Hid (Has w [] ((pfinA fb hb (W 0) (K 0) [] [] []).star (ownA 3 none 0 0 (aL A 0))) w2) from by
    show Has _ _ _ _
    rw [HC.out.w0, HC.out.k0]
    exact Has.ownNew 3 hP)
  clear HH hP
  go_wp2_with fail
  go_loopw [8, 9] (fun l i wr => ∃ (j : Nat) (la : Option Addr) (lc : Nat), l = .slice la j lc ∧ i = .int .i64 j ∧ j ≤ n + 1 ∧ Hid (Has w [] ((pfinA fb hb (W j) (K j) [] [] []).star (ownA 3 la j lc (aL A j))) wr)) (fun _ i _ => n + 1 - (intOf i).toNat)
  case atStart => exact ⟨0, none, 0, rfl, rfl, by omega, HX0⟩
  case round =>
    obtain ⟨j, la, lc, rfl, rfl, hj, HX⟩ := hrel
    obtain ⟨w3, rfl⟩ : ∃ w3, w3 = wr := ⟨_, rfl⟩
    clear HX0
    by_cases hlt : j < n + 1
    · have hd : decide (j ≤ n) = true := decide_eq_true (by omega)
      have hjn : j ≤ n := by omega
      have HT := hid (HC.out.step j (by omega))
      have hab := HC.out.os.bd j (by omega)
      obtain ⟨a, ha⟩ : ∃ a, A j = a := ⟨_, rfl⟩
      rw [ha] at HT hab
      have HL := (show Hid (aL A (j + 1) = aL A j ++ [(a : Int)]) from by show _ = _; rw [aL_snoc, ha])
      clear ha
      by_cases hj2 : j = n
      · have HT2 := (show Hid (MakeT (K j) (W j) [] 4 2 5 false a 0 (W (j + 1)) (K (j + 1))) from by
          have h := HT.out
          unfold kkF ccF llF at h
          rw [if_pos hj2, if_pos hj2, if_pos hj2] at h
          exact h)
        clear HT
        subst hj2
        go_wp2_with (first | (go_at_call 24; refine (has_left (HX.out.keep0 (Keep.alloc [] w3 _)) (fun F hF => has_pfheap hF (fun F hF => omake 4 2 5 a 0 false _ _ _ hF HT2.out))).mono ?_; rintro e w4 ⟨rfl, hX3⟩; have HX3 := hid hX3; clear hX3) | (go_at_call 7; refine (err_any _ _).mono ?_; rintro e w' ⟨rfl, rfl⟩) | (at_builtin; refine wpList_append_lies _ rfl (.tmp 48) (.tmp 50) 23 rfl 0 3 i0 (.int .i64 0) 1 8 Tryz.underlying23 hI.out.1 hI.out.2.1 hI.out.2.2.1 hI.out.2.2.2 rfl (by decide) _ j (ints (aL A j)) rfl (HX3.out.snd.own.alloc _) ⟨w4.heap.size, 0, none⟩ 1 1 (ints [(a : Int)]) rfl rfl (one_cell _ _ _) (ints_one _) (by omega) (by unfold maxLen; omega) (by omega) (by omega) (w4.heap.size + 1) (by simp) ?_; intro ga ca7 w7 hown7 hgrow7 hblk7 hlt7; rw [ints_app] at hown7; have HX7 := (show Hid (Has w [] ((pfinA fb hb (W (j + 1)) (K (j + 1)) [] [] []).star (ownA 3 (some ⟨ga, 0, none⟩) (j + 1) ca7 (aL A (j + 1)))) w7) from by show Has _ _ _ _; rw [HL.out]; exact (HX3.out.keep0 (Keep.alloc [] _ _)).ownMore hown7 hgrow7 hblk7 (by simp) hlt7); clear hown7 hgrow7 hblk7 hlt7))
        go_roundw
        case rel => exact ⟨j + 1, some ⟨ga, 0, none⟩, ca7, by rfl, by go_num, by omega, HX7⟩
        case measure => simp [intOf]
      · have HT2 := (show Hid (MakeT (K j) (W j) [] 3 0 1 false a 0 (W (j + 1)) (K (j + 1))) from by
          have h := HT.out
          unfold kkF ccF llF at h
          rw [if_neg hj2, if_neg hj2, if_neg hj2] at h
          exact h)
        have hd2 : ((j : Int) == (n : Int)) = false := by rw [beq_eq_false_iff_ne]; omega
        clear HT
        go_wp2_with (first | (go_at_call 24; refine (has_left (HX.out.keep0 (Keep.alloc [] w3 _)) (fun F hF => has_pfheap hF (fun F hF => omake 3 0 1 a 0 false _ _ _ hF HT2.out))).mono ?_; rintro e w4 ⟨rfl, hX3⟩; have HX3 := hid hX3; clear hX3) | (go_at_call 7; refine (err_any _ _).mono ?_; rintro e w' ⟨rfl, rfl⟩) | (at_builtin; refine wpList_append_lies _ rfl (.tmp 48) (.tmp 50) 23 rfl 0 3 i0 (.int .i64 0) 1 8 Tryz.underlying23 hI.out.1 hI.out.2.1 hI.out.2.2.1 hI.out.2.2.2 rfl (by decide) _ j (ints (aL A j)) rfl (HX3.out.snd.own.alloc _) ⟨w4.heap.size, 0, none⟩ 1 1 (ints [(a : Int)]) rfl rfl (one_cell _ _ _) (ints_one _) (by omega) (by unfold maxLen; omega) (by omega) (by omega) (w4.heap.size + 1) (by simp) ?_; intro ga ca7 w7 hown7 hgrow7 hblk7 hlt7; rw [ints_app] at hown7; have HX7 := (show Hid (Has w [] ((pfinA fb hb (W (j + 1)) (K (j + 1)) [] [] []).star (ownA 3 (some ⟨ga, 0, none⟩) (j + 1) ca7 (aL A (j + 1)))) w7) from by show Has _ _ _ _; rw [HL.out]; exact (HX3.out.keep0 (Keep.alloc [] _ _)).ownMore hown7 hgrow7 hblk7 (by simp) hlt7); clear hown7 hgrow7 hblk7 hlt7))
        go_roundw
        case rel => exact ⟨j + 1, some ⟨ga, 0, none⟩, ca7, by rfl, by go_num, by omega, HX7⟩
        case measure => simp [intOf]; omega
    · obtain rfl : j = n + 1 := by omega
      have hd : decide (n + 1 ≤ n) = false := decide_eq_false (by omega)
      have HX1 := (show Hid (Has w [] ((pfinA fb hb (W (n + 1)) (K (n + 1)) [] [] []).star (listA la (aL A (n + 1)))) w3) from (HX.out.comm.map (fun F g => by
        obtain ⟨F1, F2, hF, h1, h2, hd⟩ := g
        exact ⟨F1, F2, hF, ⟨h1.1, (own_at h1.2.1 (HC.out.aBd (n + 1) (Nat.le_refl _))).1, h1.2.2⟩, h2, hd⟩)).comm)
      have HLC := (show Hid (n + 1 ≤ lc) from ((own_mid HX.out.snd.own).ints (HC.out.aBd (n + 1) (Nat.le_refl _))).2.2.2)
      clear HX hlt
      go_wp2_with fail
      go_ret3
      exact ⟨hb, fb, la, lc, rfl, HLC.out, HX1.out⟩

set_option maxRecDepth 100000 in
set_option maxHeartbeats 3200000 in
theorem awake15_any (w : World) :
    Calls Tryz.prog 20 #[] w fun e w' => e = .returned (.bool true) ∧ Keep [] w w' := by
  obtain ⟨W, K, A, hC⟩ := gchain_ex (kkF 1) (ccF 1) (llF 1) (headF 1) 2 (by omega)
  have hb0 := hC.os.bd 0 (by omega)
  obtain ⟨ws', hT, _⟩ := hC.os.await 0 (by omega) rfl
  obtain ⟨a, ha⟩ : ∃ a, A 0 = a := ⟨_, rfl⟩
  rw [ha] at hT hb0
  have HC := hid hC
  have HT := hid hT
  have HA0 := hid ha
  clear hC hT ha
  go_enter Tryz.func20, Tryz.ntmps20
  go_wp2_with fail
  refine (made15 1 HC.out (by omega) _).mono ?_
  rintro e w1 ⟨hb, fb, la, lc, rfl, _, hX⟩
  have HX := hid hX
  obtain ⟨lb, lo, rfl, hlb, hcs⟩ := HX.out.snd.list.cells (by rw [aL_length]; omega)
  have hc0 := hcs 0 (by rw [aL_length]; omega)
  rw [aL_get A (1 + 1) 0 (by omega), HA0.out, Nat.add_zero] at hc0
  clear hcs hX
  go_wp2_with fail
  refine (has_left HX.out (fun F hF => pftake 0 0 1 [] _ hF (.no (.inr (by simp))) ⟨by omega, by omega⟩ (by simp))).mono ?_
  rintro e w2 ⟨rfl, hX2⟩
  have HX2 := hid hX2
  obtain ⟨lb', lo', ee, hlb2, hcs2⟩ := HX2.out.snd.list.cells (by rw [aL_length]; omega)
  cases ee
  have hc2 := hcs2 0 (by rw [aL_length]; omega)
  rw [aL_get A (1 + 1) 0 (by omega), HA0.out, Nat.add_zero] at hc2
  clear hX2 HX hc0 hcs2
  go_wp2_with fail
  refine (has_left HX2.out (fun F hF => pfawait a 0 ws' _ hF HT.out ⟨by omega, by omega⟩ (by simp))).mono ?_
  rintro e w3 ⟨rfl, hX3⟩
  have HX3 := hid hX3
  clear hX3 HX2 hc2
  go_wp2_with (first | (go_at_call 7; refine (err_any _ _).mono ?_; rintro e w' ⟨rfl, rfl⟩) | (go_at_call 15; refine (pffinals _ HX3.out.fst (by simp [awaitL])).mono ?_; rintro e w4 ⟨v4, m4, rfl, hown4, hK4⟩; obtain ⟨la4, lc4, rfl, _, _, hX4⟩ := HX3.out.listed2 hK4 hown4 HX3.out.fst.pfin_in.1; rw [show (awaitL 0 [] (a : Int)).length = 1 from rfl]))
  go_ret
  exact ⟨rfl, hX4.K⟩

def hdO (k c l : Int) (f : Bool) : Obj := .cells #[.int .i64 k, .int .i64 c, .int .i64 l, .bool f] 37 (0, 0)
def oneO (a : Int) : Obj := .cells #[.int .i64 a] 3 (0, 0)
theorem ints_block {R : Asn} {b : Nat} {a : Int} (ha : inI a) : ∀ (w : World) (F : List Nat), (R.star (blockA b (oneO a))).at' w F → IntsAt w (some ⟨b, 0, none⟩) [a] := by
  rintro w F ⟨F1, F2, _, _, h2, _⟩
  exact IntsAt.oneB h2.2 ha.1 ha.2
theorem Has.hd {w0 w : World} {F0 : List Nat} {b : Nat} {k c l : Int} {f : Bool} (h : Has w0 F0 (blockA b (hdO k c l f)) w) : w.heap[b]? = some (.cells #[.int .i64 k, .int .i64 c, .int .i64 l, .bool f] 37 (0, 0)) := h.fact (fun _ h => h.2)

def twoO (a b : Int) : Obj := .cells #[.int .i64 a, .int .i64 b] 3 (0, 0)
theorem ints_block2 {R : Asn} {b : Nat} {x y : Int} (hx : inI x) (hy : inI y) : ∀ (w : World) (F : List Nat), (R.star (blockA b (twoO x y))).at' w F → IntsAt w (some ⟨b, 0, none⟩) [x, y] := by
  rintro w F ⟨F1, F2, _, _, h2, _⟩
  have h := h2.2
  unfold twoO at h
  refine ⟨fun _ => ⟨b, 0, rfl, lt_of_block h, fun i hi => ?_⟩, fun i => ?_, fun i => ?_⟩
  · rcases (show i = 0 ∨ i = 1 by simp at hi; omega) with rfl | rfl
    · simp [World.cell?, h]
    · simp [World.cell?, h]
  · rcases (show i = 0 ∨ i = 1 ∨ 2 ≤ i by omega) with rfl | rfl | h
    · simpa using hx.1
    · simpa using hy.1
    · rw [List.getElem?_eq_none (by simpa using h)]; simp
  · rcases (show i = 0 ∨ i = 1 ∨ 2 ≤ i by omega) with rfl | rfl | h
    · simpa using hx.2
    · simpa using hy.2
    · rw [List.getElem?_eq_none (by simpa using h)]; simp

end Go.Proofs.YtjlbfojbgnhhbaaGreat

/-
  The program's finals beside the document's own, in memory; what holds of both through any row of calls.
-/
namespace Go.Proofs.YtjlbfojbgnhhbaaGreat
open Go.RowKit

section
variable {w0 w : World} {F0 : List Nat} {fb hb rb mb : Nat} {ws ws2 : List Int} {kd kd2 : List PK} {ds : List (Int × List Int)} {L Q L2 Q2 : List Int} {lb lo : Nat} {D : List Int}
/-- A call on the document's own heap alone. -/
theorem has_rfheap {P : Program} {f : FuncId} {args : Array Value} {ws' : List Int} {kd' : List PK} {ds' : List (Int × List Int)} {R : Ending → World → Prop} (h : Has w0 F0 (rfinA rb mb ws kd ds L Q) w) (hc : ∀ F, Has w F (rheapA mb ws kd ds) w → Calls P f args w fun e w' => R e w' ∧ Has w F (rheapA mb ws' kd' ds') w') :
    Calls P f args w fun e w' => R e w' ∧ Has w0 F0 (rfinA rb mb ws' kd' ds' L Q) w' := by
  obtain ⟨la, c, qa, d, h, e1, e2, e3, e4⟩ := h.rfraw
  refine (has_left h (fun F hF => has_left hF (fun F hF => has_right hF hc))).mono ?_
  rintro e w' ⟨hq, hX⟩
  exact ⟨hq, Has.rfin hX e1 e2 e3 e4⟩
/-- Finals without any, in a new block. -/
theorem Has.rfin_new {B : Asn} (h : Has w0 F0 (B.star (rheapA mb ws kd ds)) w) (o : Obj) (ho : o = rfObj mb none 0 0 none 0 0) : Has w0 F0 (B.star (rfinA w.heap.size mb ws kd ds [] [])) (w.alloc o) := by
  subst ho
  have h1 : Has w0 F0 (B.star ((rheapA mb ws kd ds).star (blockA w.heap.size (rfObj mb none 0 0 none 0 0)))) (w.alloc _) := (h.newB (rfObj mb none 0 0 none 0 0)).assoc
  refine (Has.left h1.comm (fun F hF => ?_)).comm
  have h2 := (Has.start hF).comm
  have h3 := h2.more (Keep.refl [] _) (B := listA none []) (G := []) ⟨rfl, IntsAt.nil _ _, by simp⟩ (by simp)
  have h4 := h3.more (Keep.refl [] _) (B := listA none []) (G := []) ⟨rfl, IntsAt.nil _ _, by simp⟩ (by simp)
  exact Has.rfin (la := none) (qa := none) (c := 0) (d := 0) h4 (fun _ => rfl) (fun _ => rfl) (Nat.le_refl _) (Nat.le_refl _)

/-- Both sides, each as it stands, and the objects. -/
def DF (fb hb rb mb : Nat) (ws ws2 : List Int) (kd kd2 : List PK) (L Q L2 Q2 : List Int) (lb lo : Nat) (D : List Int) : Asn :=
  ((pfinA fb hb ws kd [] L Q).star (rfinA rb mb ws2 kd2 [] L2 Q2)).star (listA (some ⟨lb, lo, none⟩) D)
theorem has_f1 {P : Program} {f : FuncId} {args : Array Value} {ws' : List Int} {kd' : List PK} {L' Q' : List Int} {R : Ending → World → Prop} (h : Has w0 F0 (DF fb hb rb mb ws ws2 kd kd2 L Q L2 Q2 lb lo D) w) (hc : ∀ F, Has w F (pfinA fb hb ws kd [] L Q) w → Calls P f args w fun e w' => R e w' ∧ Has w F (pfinA fb hb ws' kd' [] L' Q') w') :
    Calls P f args w fun e w' => R e w' ∧ Has w0 F0 (DF fb hb rb mb ws' ws2 kd' kd2 L' Q' L2 Q2 lb lo D) w' := has_left h (fun _ h => has_left h hc)
theorem has_f2 {P : Program} {f : FuncId} {args : Array Value} {ws' : List Int} {kd' : List PK} {L' Q' : List Int} {R : Ending → World → Prop} (h : Has w0 F0 (DF fb hb rb mb ws ws2 kd kd2 L Q L2 Q2 lb lo D) w) (hc : ∀ F, Has w F (rfinA rb mb ws2 kd2 [] L2 Q2) w → Calls P f args w fun e w' => R e w' ∧ Has w F (rfinA rb mb ws' kd' [] L' Q') w') :
    Calls P f args w fun e w' => R e w' ∧ Has w0 F0 (DF fb hb rb mb ws ws' kd kd' L Q L' Q' lb lo D) w' := has_left h (fun _ h => has_right h hc)
theorem Has.dfcell (h : Has w0 F0 (DF fb hb rb mb ws ws2 kd kd2 L Q L2 Q2 lb lo D) w) (i : Nat) (hi : i < D.length) : w.cell? ⟨lb, lo + i, none⟩ = some (.int .i64 (D[i]?.getD 0)) := by
  obtain ⟨b, off, e, _, hcs⟩ := h.snd.list.cells (by omega)
  cases e
  exact hcs i hi
/-- The document's own lists, as they are read. -/
theorem Has.dfrows (h : Has w0 F0 (DF fb hb rb mb ws ws2 kd kd2 L Q L2 Q2 lb lo D) w) : ∃ la c qa d, w.cell? ⟨rb, 0, none⟩ = some (.pointer (some ⟨mb, 0, none⟩)) ∧ w.cell? ⟨rb, 1, none⟩ = some (.slice la L2.length c) ∧ w.cell? ⟨rb, 2, none⟩ = some (.slice qa Q2.length d) ∧ IntsAt w la L2 ∧ IntsAt w qa Q2 := by
  obtain ⟨la, c, qa, d, hR, _⟩ := h.fst.snd.rfraw
  obtain ⟨c0, c1, c2, _, _⟩ := rfobj_cells hR.rfcells
  exact ⟨la, c, qa, d, c0, c1, c2, hR.fst.snd.list, hR.snd.list⟩
theorem three_ints {g : Nat} {ty : TypeId} {x y z : Int} (h : w.heap[g]? = some (.cells #[.int .i64 x, .int .i64 y, .int .i64 z] ty (0, 0))) (hx : inI x) (hy : inI y) (hz : inI z) (m : Nat) (hm : m ≤ 3) : IntsAt w (some ⟨g, 0, none⟩) ([x, y, z].take m) ∧ ([x, y, z].take m).length = m := by
  refine ⟨⟨fun _ => ⟨g, 0, rfl, lt_of_block h, fun i hi => ?_⟩, fun i => ?_, fun i => ?_⟩, by simp; omega⟩
  · have hi3 : i < 3 := by simp at hi; omega
    have him : i < m := by simp at hi; omega
    rcases (show i = 0 ∨ i = 1 ∨ i = 2 by omega) with rfl | rfl | rfl <;> simp [World.cell?, h, him]
  · rw [List.getElem?_take]
    split
    · rcases i with _ | _ | _ | i <;> simp <;> first | exact hx.1 | exact hy.1 | exact hz.1 | omega
    · simp
  · rw [List.getElem?_take]
    split
    · rcases i with _ | _ | _ | i <;> simp <;> first | exact hx.2 | exact hy.2 | exact hz.2 | omega
    · simp
end

/-- An object that is final. -/
def Flg (kd : List PK) (ws : List Int) (x : Int) : Prop := ∃ b m k c l, At kd ws x b m k c l true
/-- What holds behind t rounds. -/
structure RN (kd : List PK) (ws : List Int) (L Q : List Int) (t : Nat) : Prop where
  fine : Fine ws kd []
  nd : L.Nodup
  fl : ∀ x, x ∈ L → Flg kd ws x
  len : L.length + Q.length ≤ t
section
variable {kd : List PK} {ws ws' : List Int} {L Q : List Int} {t : Nat}
theorem at_flag {a : Int} {b m b' m' : Nat} {k c l k' c' l' : Int} {f f' : Bool} (h : At kd ws a b m k c l f) (h' : At kd ws a b' m' k' c' l' f') : f = f' := by
  have e : b = b' := by have := h.1; have := h'.1; omega
  subst e
  exact (h.2.2.parts.2.2.2.2.2).symm.trans h'.2.2.parts.2.2.2.2.2
theorem FinalT.flags {a E x : Int} (h : FinalT kd ws a E ws') (_ : Fine ws kd []) (hx : Flg kd ws x) : Flg kd ws' x := by
  cases h with
  | none _ => exact hx
  | kind _ _ _ _ _ _ => exact hx
  | has _ _ _ _ _ _ _ => exact hx
  | yes b m k c l hA hk =>
    obtain ⟨b', m', k', c', l', hB⟩ := hx
    refine ⟨b', m', k', c', l', hB.1, hB.2.1, ?_⟩
    by_cases e : b = b'
    · subst e
      have := hA.2.2.parts.2.2.2.2.2
      have h2 := hB.2.2.parts.2.2.2.2.2
      rw [this] at h2
      cases h2
    · rw [set_get_other _ _ _ _ e]
      exact hB.2.2
theorem FinalT.flagged {a : Int} (h : FinalT kd ws a 0 ws') (hf : Fine ws kd []) : Flg kd ws' a ∧ ¬ Flg kd ws a := by
  generalize hE : (0 : Int) = E at h
  cases h with
  | none _ => omega
  | kind _ _ _ _ _ _ => omega
  | has _ _ _ _ _ _ _ => omega
  | yes b m k c l hA hk =>
    have hm := hA.facts hf.wf
    have hl := hf.len
    refine ⟨⟨b, m, k, c, l, hA.1, hA.2.1, ?_⟩, ?_⟩
    · rw [set_get_same _ _ _ (by omega)]
      exact ⟨may_final hA.2.2.1 hk, rfl⟩
    · rintro ⟨b', m', k', c', l', hB⟩
      have := at_flag hA hB
      cases this
theorem RN.await (h : RN kd ws L Q t) {a E : Int} (hT : FinalT kd ws a E ws') : RN kd ws' (awaitL E L a) Q (t + 1) := by
  by_cases hE : E = 0
  · subst hE
    obtain ⟨h1, h2⟩ := hT.flagged h.fine
    have e : awaitL 0 L a = L ++ [a] := if_pos rfl
    rw [e]
    refine ⟨hT.fine h.fine, ?_, fun x hx => ?_, by rw [List.length_append, List.length_singleton]; have := h.len; omega⟩
    · rw [List.nodup_append]
      refine ⟨h.nd, by simp, fun x hx y hy => ?_⟩
      rw [List.mem_singleton] at hy
      intro e
      exact h2 (hy ▸ e ▸ h.fl x hx)
    · rcases List.mem_append.1 hx with e | e
      · exact hT.flags h.fine (h.fl x e)
      · rw [List.mem_singleton.1 e]; exact h1
  · have e : awaitL E L a = L := if_neg hE
    rw [e]
    exact ⟨hT.fine h.fine, h.nd, fun x hx => hT.flags h.fine (h.fl x hx), by have := h.len; omega⟩
theorem RN.pend (h : RN kd ws L Q t) (M : List Int) : RN kd ws (pendL L Q M).1 (pendL L Q M).2 (t + 1) := by
  suffices key : ∀ s : List Int × List Int, RN kd ws s.1 s.2 t → RN kd ws (M.foldl pend1 s).1 (M.foldl pend1 s).2 t by
    have := key (L, Q) h
    exact ⟨this.fine, this.nd, this.fl, by have := this.len; show _ ≤ _; unfold pendL; omega⟩
  induction M with
  | nil => intro s hs; exact hs
  | cons x M ih =>
    intro s hs
    rw [List.foldl_cons]
    refine ih _ ?_
    unfold pend1
    split
    · rename_i hx
      have hm : x ∈ s.1 := of_decide_eq_true hx
      refine ⟨hs.fine, hs.nd.sublist List.filter_sublist, fun y hy => hs.fl y (List.mem_filter.1 hy).1, ?_⟩
      have h1 : (withoutL s.1 x).length < s.1.length := by
        unfold withoutL
        refine Nat.lt_of_le_of_ne (List.length_filter_le _ _) (fun e => ?_)
        have := List.length_filter_eq_length_iff.1 e x hm
        simp at this
      show (withoutL s.1 x).length + (s.2 ++ [x]).length ≤ t
      rw [List.length_append, List.length_singleton]
      have := hs.len
      omega
    · exact hs
theorem RN.take (h : RN kd ws L Q t) {i N E : Int} {Q' : List Int} (hT : TakeT Q i N E Q') : RN kd ws L Q' (t + 1) := by
  cases hT with
  | no _ => exact ⟨h.fine, h.nd, h.fl, by have := h.len; omega⟩
  | yes j _ hj => exact ⟨h.fine, h.nd, h.fl, by have := h.len; rw [List.length_append, List.length_take, List.length_drop]; omega⟩
end
theorem sw15 (s : Nat) (_ : s < 5) : (((s : Int) == 0) = true ∨ ((s : Int) == 0) = false ∧ ((s : Int) == 1) = true)
    ∨ (((s : Int) == 0) = false ∧ ((s : Int) == 1) = false ∧ (((s : Int) == 2) = true ∨ ((s : Int) == 2) = false ∧ ((s : Int) == 3) = true))
    ∨ (((s : Int) == 0) = false ∧ ((s : Int) == 1) = false ∧ ((s : Int) == 2) = false ∧ ((s : Int) == 3) = false) := by
  simp only [beq_iff_eq, beq_eq_false_iff_ne]
  omega

end Go.Proofs.YtjlbfojbgnhhbaaGreat
