/-
  Contracts of what the statement calls, one text behind the other (QueueM, RefM, ChainG, GraphF, Wide, Heads17, Words17, Awake9, Graph17, Awake17).
-/
import Derived.Test.YtgpidokklhjfdaaPart6
import Derived.Test.YtgpidokklhjfdaaPart5
import Derived.Deep.CutRange
import Derived.Deep.CutBlock
import Derived.Deep.RegionLaw
import Derived.Test.YtgpidokklhjfdaaPart2
import Derived.Test.YtgpidokklhjfdaaPart4
import Derived.Deep.RegionHeld3

/-
  References in rows: what a push and a poll leave of the words, and of each reference. Plain facts.
-/
namespace Go.Proofs.Ytgpidokklhjfdaa
open Go.RowKit

/-- A reference lies at a. -/
def RefA (kd : List PK) (ws : List Int) (a : Nat) : Prop := ∃ (m : Nat) (c : Int), At kd ws (a : Nat) a m 4 c 5 false
section
variable {kd : List PK} {ws : List Int} {ds : List (Int × List Int)} {a b : Nat} {x : Int}
theorem RefA.head (h : RefA kd ws a) : ∃ c, HeadT kd ws a 4 c 5 false 0 := by obtain ⟨m, c, h⟩ := h; exact ⟨c, .yes a m 4 c 5 false h⟩
theorem at_room {k c l : Int} {m : Nat} {f : Bool} (hf : Fine ws kd ds) (h : At kd ws (a : Nat) a m k c l f) : l + 1 ≤ m := by
  obtain ⟨k', c', l', f', g1, g2, _⟩ := hf.ob.head a m h.2.1
  obtain ⟨_, _, _, _, p3, _⟩ := g1.parts
  obtain ⟨_, _, _, _, q3, _⟩ := h.2.2.parts
  have : l = l' := by rw [← p3, ← q3]
  omega
theorem RefA.place (hf : Fine ws kd ds) (h : RefA kd ws a) : PlaceT kd ws a 2 (a + 3) 0 ∧ a + 3 < ws.length ∧ 64 ≤ a := by
  obtain ⟨m, c, h⟩ := h
  have h1 := at_room hf h
  have h2 := h.facts hf.wf
  have h3 := hf.len
  exact ⟨.yes a m 2 4 c 5 false h rfl (by omega) h1, by omega, h2.2.1⟩
theorem RefA.put (hf : Fine ws kd ds) (h : RefA kd ws a) (x : Int) : PutT kd ws a 2 x 0 (ws.set (a + 3) x) := .yes (a + 3) (h.place hf).1 (h.place hf).2.1
theorem RefA.link (hf : Fine ws kd ds) (h : RefA kd ws a) (x : Int) : LinkT kd ws a x (ws.set (a + 3) x) := by
  have hp := h.put hf x
  obtain ⟨m, c, h⟩ := h
  exact .yes a m c 5 0 false _ h hp
theorem RefA.fineSet (hf : Fine ws kd ds) (h : RefA kd ws a) (hx : inI x) : Fine (ws.set (a + 3) x) kd ds := (h.put hf x).fine hf hx
theorem RefA.field (hf : Fine ws kd ds) (h : RefA kd ws a) : FieldT kd ws a 2 (ws[a + 3]?.getD 0) 0 := .yes (a + 3) (h.place hf).1 (h.place hf).2.1
/-- What else there is stays as it was. -/
theorem at_kept {y k c l : Int} {p m : Nat} {f : Bool} (hf : Fine ws kd ds) (h : RefA kd ws a) (hA : At kd ws y p m k c l f) (x : Int) : At kd (ws.set (a + 3) x) y p m k c l f := by
  obtain ⟨m', c', h⟩ := h
  have h1 := at_room hf h
  refine ⟨hA.1, hA.2.1, ?_⟩
  rw [set_get_other _ _ _ _ (fun e => ?_)]
  · exact hA.2.2
  · obtain ⟨g1, g2, _⟩ := hf.wf.found hA.2.1
    have := hf.wf.apart h.2.1 hA.2.1 (x := p) (by omega) (by omega) g1 g2
    omega
theorem RefA.kept (hf : Fine ws kd ds) (h : RefA kd ws a) (hb : RefA kd ws b) (x : Int) : RefA kd (ws.set (a + 3) x) b := by
  obtain ⟨m, c, hb⟩ := hb
  exact ⟨m, c, at_kept hf h hb x⟩
theorem at_back {y k c l : Int} {p m : Nat} {f : Bool} (hf : Fine ws kd ds) (h : RefA kd ws a) (hA : At kd (ws.set (a + 3) x) y p m k c l f) : At kd ws y p m k c l f := by
  obtain ⟨m', c', h⟩ := h
  have h1 := at_room hf h
  refine ⟨hA.1, hA.2.1, ?_⟩
  have h3 := hA.2.2
  rw [set_get_other _ _ _ _ (fun e => ?_)] at h3
  · exact h3
  · obtain ⟨g1, g2, _⟩ := hf.wf.found hA.2.1
    have := hf.wf.apart h.2.1 hA.2.1 (x := p) (by omega) (by omega) g1 g2
    omega
theorem RefA.inI (hf : Fine ws kd ds) (h : RefA kd ws a) : inI (a : Int) := by
  obtain ⟨m, c, h⟩ := h
  have := h.facts hf.wf
  unfold Go.Proofs.Ytgpidokklhjfdaa.inI
  omega
end
theorem set_back {Ls : List (List Int)} {j : Nat} {L L' : List Int} (h : Ls[j]? = some L) : (Ls.set j L').set j L = Ls := by
  rw [List.set_set]
  apply List.ext_getElem?
  intro i
  by_cases e : j = i
  · subst e
    have hj : j < Ls.length := by
      rcases Nat.lt_or_ge j Ls.length with e | e
      · exact e
      · rw [List.getElem?_eq_none e] at h; cases h
    rw [List.getElem?_set_self hj, h]
  · rw [List.getElem?_set_ne e]
theorem set_at {Ls : List (List Int)} {j : Nat} {L : List Int} (h : j < Ls.length) : (Ls.set j L)[j]? = some L := List.getElem?_set_self h

section
variable {kd : List PK} {ws : List Int} {ds : List (Int × List Int)} {Ls : List (List Int)} {a : Nat}
theorem RefA.pushFirst (hf : Fine ws kd ds) (h : RefA kd ws a) {j : Nat} (hL : Ls[j]? = some []) : PushT kd ws Ls (j : Int) (a : Int) 0 (ws.set (a + 3) 0) (Ls.set j [(a : Int)]) := by
  have hl := h.link hf 0
  obtain ⟨m, c, h⟩ := h
  exact .first j a m c 5 false _ rfl hL h hl
theorem RefA.pushMore (hf : Fine ws kd ds) (h : RefA kd ws a) {j y : Nat} {L : List Int} (hL : Ls[j]? = some (L ++ [(y : Int)])) (hy : RefA kd ws y) : PushT kd ws Ls (j : Int) (a : Int) 0 ((ws.set (y + 3) (a : Int)).set (a + 3) 0) (Ls.set j (L ++ [(y : Int)] ++ [(a : Int)])) := by
  have hl := hy.link hf (a : Int)
  have h2 := (hy.kept hf h (a : Int)).link (hy.fineSet hf (h.inI hf)) 0
  obtain ⟨m, c, h⟩ := h
  exact .more j a m c 5 (y : Int) false L _ _ rfl hL h hl h2
theorem RefA.poll (hf : Fine ws kd ds) (h : RefA kd ws a) {j : Nat} {L : List Int} (hL : Ls[j]? = some ((a : Int) :: L)) : PollT kd ws Ls (j : Int) (a : Int) 0 (ws.set (a + 3) 0) (Ls.set j L) :=
  .yes j (a : Int) L _ rfl hL (h.link hf 0)
end

end Go.Proofs.Ytgpidokklhjfdaa

/-
  References: what each call answers and leaves, whatever is asked. Plain facts.
-/
namespace Go.Proofs.Ytgpidokklhjfdaa
open Go.RowKit

/-- A word within a block, behind its head. -/
def Inner (kd : List PK) (p : Nat) : Prop := ∃ a m, findN kd a = some (a, m) ∧ a < p ∧ p < a + m
section
variable {kd : List PK} {ws : List Int} {ds : List (Int × List Int)} {p : Nat} {x : Int}
theorem Inner.ne (h : Inner kd p) (hw : WF kd) {q m : Nat} (hq : findN kd q = some (q, m)) : p ≠ q := by
  obtain ⟨a, n, h1, h2, h3⟩ := h
  rintro rfl
  obtain ⟨g1, g2, _⟩ := hw.found hq
  have := hw.apart h1 hq (x := p) (by omega) h3 g1 g2
  omega
theorem Inner.at' (h : Inner kd p) (hw : WF kd) {y k c l : Int} {q m : Nat} {f : Bool} : At kd (ws.set p x) y q m k c l f ↔ At kd ws y q m k c l f := by
  constructor
  · rintro ⟨e1, e2, e3⟩
    rw [set_get_other _ _ _ _ (h.ne hw e2)] at e3
    exact ⟨e1, e2, e3⟩
  · rintro ⟨e1, e2, e3⟩
    refine ⟨e1, e2, ?_⟩
    rw [set_get_other _ _ _ _ (h.ne hw e2)]
    exact e3
theorem Inner.head (h : Inner kd p) (hw : WF kd) {a k c l E : Int} {f : Bool} (hT : HeadT kd ws a k c l f E) : HeadT kd (ws.set p x) a k c l f E := by
  cases hT with
  | no hn => exact .no hn
  | yes b m k c l f hA => exact .yes b m k c l f ((h.at' hw).2 hA)
theorem Inner.fine (h : Inner kd p) (hf : Fine ws kd ds) (hx : inI x) : Fine (ws.set p x) kd ds := by
  obtain ⟨a, m, h1, h2, h3⟩ := h
  exact ⟨hf.wf, hf.ob.field hf.wf h1 h2 h3 x hx, hf.few, by rw [List.length_set]; exact hf.len⟩
theorem Inner.lt (h : Inner kd p) (hf : Fine ws kd ds) : p < ws.length := by
  obtain ⟨a, m, h1, h2, h3⟩ := h
  have := hf.wf.found h1
  have := hf.len
  omega
end

/-- A reference of class c lies at b. -/
def RefC (kd : List PK) (ws : List Int) (b : Nat) (c : Int) : Prop := ∃ m, At kd ws (b : Nat) b m 4 c 5 false
section
variable {kd : List PK} {ws : List Int} {ds : List (Int × List Int)} {p b b' : Nat} {x c c' : Int}
theorem RefC.refA (h : RefC kd ws b c) : RefA kd ws b := by obtain ⟨m, h⟩ := h; exact ⟨m, c, h⟩
theorem RefA.refC (h : RefA kd ws b) : ∃ c, RefC kd ws b c := by obtain ⟨m, c, h⟩ := h; exact ⟨c, m, h⟩
theorem RefC.headT (h : RefC kd ws b c) : HeadT kd ws b 4 c 5 false 0 := by obtain ⟨m, h⟩ := h; exact .yes b m 4 c 5 false h
theorem RefC.cls (h : RefC kd ws b c) : 1 ≤ c ∧ c ≤ 3 := by
  obtain ⟨m, h⟩ := h
  have h3 := h.2.2.1
  rw [mayH_4] at h3
  simp [inB] at h3
  exact h3
theorem refC_of_at {k l : Int} {m : Nat} {f : Bool} (h : At kd ws x b m k c l f) (hk : k = 4) : x = (b : Int) ∧ RefC kd ws b c ∧ l = 5 ∧ f = false := by
  subst hk
  obtain ⟨e, h1, h2⟩ := h
  have h3 := h2.1
  rw [mayH_4] at h3
  simp [inB] at h3
  obtain ⟨hf, _, hl⟩ := h3
  have hl5 : l = 5 := by omega
  subst hl5
  subst hf
  exact ⟨e, ⟨m, rfl, h1, h2⟩, rfl, rfl⟩
theorem RefC.room (h : RefC kd ws b c) (hf : Fine ws kd ds) : ∃ m, findN kd b = some (b, m) ∧ 6 ≤ m ∧ 64 ≤ b ∧ b + m ≤ ws.length ∧ ws.length ≤ 16384 := by
  obtain ⟨m, h⟩ := h
  have h1 := at_room hf h
  have h2 := h.facts hf.wf
  have h3 := hf.len
  exact ⟨m, h.2.1, by omega, h2.2.1, by omega, by omega⟩
theorem RefC.inner (h : RefC kd ws b c) (hf : Fine ws kd ds) (i : Nat) (hi : i < 5) : Inner kd (b + 1 + i) := by
  obtain ⟨m, h1, h2, _⟩ := h.room hf
  exact ⟨b, m, h1, by omega, by omega⟩
theorem RefC.inI (h : RefC kd ws b c) (hf : Fine ws kd ds) : inI (b : Int) := h.refA.inI hf
theorem RefC.place (h : RefC kd ws b c) (hf : Fine ws kd ds) (i : Nat) (hi : i < 5) : PlaceT kd ws b i (b + 1 + i) 0 := by
  obtain ⟨m, h⟩ := h
  have h1 := at_room hf h
  exact .yes b m i 4 c 5 false h rfl (by omega) h1
theorem RefC.put (h : RefC kd ws b c) (hf : Fine ws kd ds) (i : Nat) (hi : i < 5) (x : Int) : PutT kd ws b i x 0 (ws.set (b + 1 + i) x) := .yes (b + 1 + i) (h.place hf i hi) ((h.inner hf i hi).lt hf)
theorem RefC.field (h : RefC kd ws b c) (hf : Fine ws kd ds) (i : Nat) (hi : i < 5) : FieldT kd ws b i (ws[b + 1 + i]?.getD 0) 0 := .yes (b + 1 + i) (h.place hf i hi) ((h.inner hf i hi).lt hf)
theorem RefC.set (h : RefC kd ws b c) (hw : WF kd) (hp : Inner kd p) (x : Int) : RefC kd (ws.set p x) b c := by
  obtain ⟨m, h⟩ := h
  exact ⟨m, (hp.at' hw).2 h⟩
theorem RefC.unset (h : RefC kd (ws.set p x) b c) (hw : WF kd) (hp : Inner kd p) : RefC kd ws b c := by
  obtain ⟨m, h⟩ := h
  exact ⟨m, (hp.at' hw).1 h⟩
theorem RefA.set (h : RefA kd ws b) (hw : WF kd) (hp : Inner kd p) (x : Int) : RefA kd (ws.set p x) b := by
  obtain ⟨c, h⟩ := h.refC
  exact (h.set hw hp x).refA
/-- Fields of two references are two words. -/
theorem RefC.apart (h : RefC kd ws b c) (h' : RefC kd ws b' c') (hf : Fine ws kd ds) {i j : Nat} (hi : i < 5) (hj : j < 5) (e : b + 1 + i = b' + 1 + j) : b = b' ∧ i = j := by
  obtain ⟨m, h1, h2, _⟩ := h.room hf
  obtain ⟨m', h1', h2', _⟩ := h'.room hf
  have := hf.wf.apart h1 h1' (x := b + 1 + i) (by omega) (by omega) (by omega) (by omega)
  omega
end

/-- What there is at a: a reference of a class, or none. -/
inductive StrT (kd : List PK) (ws : List Int) (a : Int) : Int → Prop
  | no (k c l E : Int) (f : Bool) : HeadT kd ws a k c l f E → k ≠ 4 → StrT kd ws a 0
  | yes (b : Nat) (c : Int) : a = b → RefC kd ws b c → StrT kd ws a c
/-- Refer's errors but those of room. -/
inductive MayT (kd : List PK) (ws : List Int) (n : Nat) (s a q : Int) : Int → Prop
  | str : ¬ (1 ≤ s ∧ s ≤ 3) → MayT kd ws n s a q 1
  | none : 1 ≤ s → s ≤ 3 → ¬ (-1 ≤ q ∧ q < n) → MayT kd ws n s a q 2
  | ph : s = 3 → q = -1 → MayT kd ws n s a q 1
  | head (k c l E : Int) (f : Bool) : 1 ≤ s → s ≤ 3 → -1 ≤ q → q < n → ¬ (s = 3 ∧ q = -1) → HeadT kd ws a k c l f E → MayT kd ws n s a q E
/-- What a new reference's words are. -/
def madeW (ws : List Int) (b : Nat) (a q t u : Int) : List Int := (((ws.set (b + 1) a).set (b + 2) (q + 1)).set (b + 4) t).set (b + 5) u
/-- What Refer answers and leaves. -/
inductive ReferT (kd : List PK) (ws : List Int) (ds : List (Int × List Int)) (n : Nat) (S s a q t : Int) : Int → Int → List Int → List PK → Int → Prop
  | may (E : Int) : MayT kd ws n s a q E → E ≠ 0 → ReferT kd ws ds n S s a q t 0 E ws kd S
  | full (E : Int) : MayT kd ws n s a q 0 → MakeT kd ws ds 4 s 5 false 0 E ws kd → E ≠ 0 → ReferT kd ws ds n S s a q t 0 E ws kd S
  | yes (b : Nat) (ws1 : List Int) (kd' : List PK) : MayT kd ws n s a q 0 → MakeT kd ws ds 4 s 5 false b 0 ws1 kd' → RefC kd' ws1 b s → ReferT kd ws ds n S s a q t b 0 (madeW ws1 b a q t (S + 1)) kd' (S + 1)
/-- What Referent answers and leaves. -/
inductive ReadT (kd : List PK) (ws : List Int) (a t : Int) : Int → Int → List Int → Prop
  | kind : StrT kd ws a 0 → ReadT kd ws a t 0 5 ws
  | ph (b : Nat) : a = b → RefC kd ws b 3 → ReadT kd ws a t 0 0 ws
  | plain (b : Nat) (c N : Int) : a = b → RefC kd ws b c → c ≠ 3 → ws[b + 1]?.getD 0 = N → c ≠ 1 ∨ N = 0 → ReadT kd ws a t N 0 ws
  | soft (b : Nat) (N : Int) : a = b → RefC kd ws b 1 → ws[b + 1]?.getD 0 = N → N ≠ 0 → ReadT kd ws a t N 0 (ws.set (b + 4) t)
/-- Words, the first n of a list cleared. -/
def clrN (ws L : List Int) : Nat → List Int
  | 0 => ws
  | n + 1 => (clrN ws L n).set ((L[n]?.getD 0).toNat + 1) 0
/-- What Clear answers and leaves. -/
inductive ClearT (kd : List PK) (ws L : List Int) : Int → List Int → Prop
  | kind (j : Nat) : j < L.length → (∀ i, i < j → ∃ (b : Nat) (c : Int), L[i]?.getD 0 = b ∧ RefC kd ws b c) → StrT kd ws (L[j]?.getD 0) 0 → ClearT kd ws L 5 ws
  | yes : (∀ i, i < L.length → ∃ (b : Nat) (c : Int), L[i]?.getD 0 = b ∧ RefC kd ws b c) → ClearT kd ws L 0 (clrN ws L L.length)
/-- What Enqueue answers and leaves. -/
inductive EnqT (kd : List PK) (ws : List Int) (Ls : List (List Int)) (a : Int) : Bool → Int → List Int → List (List Int) → Prop
  | kind : StrT kd ws a 0 → EnqT kd ws Ls a false 5 ws Ls
  | no (b : Nat) (c : Int) : a = b → RefC kd ws b c → ws[b + 2]?.getD 0 < 1 → EnqT kd ws Ls a false 0 (ws.set (b + 1) 0) Ls
  | yes (b : Nat) (c x E : Int) (ws' : List Int) (Ls' : List (List Int)) : a = b → RefC kd ws b c → ws[b + 2]?.getD 0 = x → 1 ≤ x → PushT kd (ws.set (b + 1) 0) Ls (x - 1) b E ws' Ls' → RefC kd ws' b c → EnqT kd ws Ls a true 0 (ws'.set (b + 2) (-1)) Ls'

section
variable {kd kd' : List PK} {ws ws' : List Int} {ds : List (Int × List Int)} {a : Int}
theorem strT_ex (hf : Fine ws kd ds) (a : Int) : ∃ c, StrT kd ws a c := by
  rcases at_or hf.ob a with ⟨b, m, k, c, l, f, hA, _⟩ | hn
  · by_cases hk : k = 4
    · obtain ⟨e, h, _⟩ := refC_of_at hA hk
      exact ⟨c, .yes b c e h⟩
    · exact ⟨0, .no k c l 0 f (.yes b m k c l f hA) hk⟩
  · exact ⟨0, .no 0 0 0 2 false (.no hn) (by omega)⟩
theorem StrT.or {c : Int} (h : StrT kd ws a c) : StrT kd ws a 0 ∨ ∃ b : Nat, a = b ∧ RefC kd ws b c := by
  cases h with
  | no k c l E f h hk => exact .inl (.no k c l E f h hk)
  | yes b c e h => exact .inr ⟨b, e, h⟩
theorem mayT_ex (hf : Fine ws kd ds) (n : Nat) (s a q : Int) : ∃ E, MayT kd ws n s a q E := by
  by_cases h1 : 1 ≤ s ∧ s ≤ 3
  · by_cases h2 : -1 ≤ q ∧ q < n
    · by_cases h3 : s = 3 ∧ q = -1
      · exact ⟨_, .ph h3.1 h3.2⟩
      · obtain ⟨k, c, l, f, E, hT⟩ := headT_ex hf.ob a
        exact ⟨_, .head k c l E f h1.1 h1.2 h2.1 h2.2 h3 hT⟩
    · exact ⟨_, .none h1.1 h1.2 h2⟩
  · exact ⟨_, .str h1⟩
theorem MayT.zero {n : Nat} {s a q : Int} (h : MayT kd ws n s a q 0) : 1 ≤ s ∧ s ≤ 3 ∧ -1 ≤ q ∧ q < n := by
  cases h with
  | head k c l E f h1 h2 h3 h4 _ _ => exact ⟨h1, h2, h3, h4⟩
theorem mayH_ref {s : Int} (h1 : 1 ≤ s) (h2 : s ≤ 3) : mayH 4 s 5 false = true := by
  rw [mayH_4, inB_yes h1 h2, inB_yes (by omega) (by omega)]; rfl
/-- A reference that was made lies there; what there was lies there yet. -/
theorem MakeT.ref {s : Int} {b : Nat} (h : MakeT kd ws ds 4 s 5 false b 0 ws' kd') (hf : Fine ws kd ds) : RefC kd' ws' b s ∧ Fine ws' kd' ds ∧ kd'.length = kd.length ∧
    (∀ (p m : Nat) (k c l : Int) (f : Bool), At kd ws p p m k c l f → At kd' ws' p p m k c l f ∧ (p + m ≤ b ∨ b + 6 ≤ p) ∧ ∀ i, i < m → ws'[p + i]?.getD 0 = ws[p + i]?.getD 0) ∧
    (∀ i, i < 5 → ws'[b + 1 + i]?.getD 0 = 0) := by
  obtain ⟨f1, l1⟩ := h.fine hf
  have hl := hf.len
  generalize hB : (b : Int) = B at h
  cases h with
  | fits E _ _ _ h0 => exact absurd rfl h0
  | yes a m kd' hm _ hF hr hb =>
    obtain rfl : a = b := by omega
    obtain ⟨b', hb', h1, h2, h3, h4, h5, h6, h7⟩ := hr.spec hf.wf
    obtain rfl : m = b' := by rw [hb] at hb'; omega
    have hat := MakeT.at hf.wf hf.len hm hr hb
    have hR : RefC kd' ((fill0 ws a m).set a (putH 4 s 5 false)) a s := ⟨m, hat⟩
    have hm6 : 6 ≤ m := by
      obtain ⟨m', g1, g2, _⟩ := hR.room f1
      rw [hat.2.1] at g1
      cases g1
      exact g2
    refine ⟨hR, f1, l1, fun p n k c l f hA => ?_, fun i hi => ?_⟩
    · obtain ⟨g1, g2⟩ := hA.made (x := putH 4 s 5 false) hf.wf hf.len hr hb
      refine ⟨g1, by omega, fun i hi => ?_⟩
      rw [set_get_other _ _ _ _ (by omega), fill0_get _ _ _ _ (by omega), if_neg (by omega)]
    · rw [set_get_other _ _ _ _ (by omega), fill0_get _ _ _ _ (by omega), if_pos (by omega)]
theorem referT_ex (hf : Fine ws kd ds) (n : Nat) (S s a q t : Int) : ∃ N E ws' kd' S', ReferT kd ws ds n S s a q t N E ws' kd' S' := by
  obtain ⟨E, hM⟩ := mayT_ex hf n s a q
  by_cases hE : E = 0
  · subst hE
    obtain ⟨h1, h2, _⟩ := hM.zero
    obtain ⟨N, E, ws', kd', hT⟩ := makeT_ex ws ds 4 s 5 false hf.wf
    have hT' := hT
    cases hT with
    | arg h => rw [mayH_ref h1 h2] at h; cases h
    | fits E _ _ h hE => exact ⟨_, _, _, _, _, .full E hM hT' hE⟩
    | full _ _ _ _ => exact ⟨_, _, _, _, _, .full 3 hM hT' (by omega)⟩
    | yes b m kd' _ _ _ _ _ => exact ⟨_, _, _, _, _, .yes b _ kd' hM hT' (hT'.ref hf).1⟩
  · exact ⟨_, _, _, _, _, .may E hM hE⟩
theorem readT_ex (hf : Fine ws kd ds) (a t : Int) : ∃ N E ws', ReadT kd ws a t N E ws' := by
  obtain ⟨c, hS⟩ := strT_ex hf a
  rcases hS.or with h | ⟨b, e, h⟩
  · exact ⟨_, _, _, .kind h⟩
  · by_cases h3 : c = 3
    · subst h3; exact ⟨_, _, _, .ph b e h⟩
    · by_cases h1 : c = 1 ∧ ws[b + 1]?.getD 0 ≠ 0
      · obtain ⟨rfl, h1⟩ := h1
        exact ⟨_, _, _, .soft b _ e h rfl h1⟩
      · exact ⟨_, _, _, .plain b c _ e h h3 rfl (by omega)⟩
theorem clearT_ex (hf : Fine ws kd ds) (L : List Int) : ∃ E ws', ClearT kd ws L E ws' := by
  have key : ∀ n, n ≤ L.length → (∃ j, j < L.length ∧ (∀ i, i < j → ∃ (b : Nat) (c : Int), L[i]?.getD 0 = b ∧ RefC kd ws b c) ∧ StrT kd ws (L[j]?.getD 0) 0) ∨ ∀ i, i < n → ∃ (b : Nat) (c : Int), L[i]?.getD 0 = b ∧ RefC kd ws b c := by
    intro n
    induction n with
    | zero => intro _; exact .inr (fun i hi => by omega)
    | succ n ih =>
      intro hn
      rcases ih (by omega) with h | h
      · exact .inl h
      · obtain ⟨c, hS⟩ := strT_ex hf (L[n]?.getD 0)
        rcases hS.or with h0 | ⟨b, e, h1⟩
        · exact .inl ⟨n, by omega, h, h0⟩
        · refine .inr (fun i hi => ?_)
          rcases Nat.lt_or_ge i n with g | g
          · exact h i g
          · obtain rfl : i = n := by omega
            exact ⟨b, c, e, h1⟩
  rcases key L.length (Nat.le_refl _) with ⟨j, h1, h2, h3⟩ | h
  · exact ⟨_, _, .kind j h1 h2 h3⟩
  · exact ⟨_, _, .yes h⟩
end

section
variable {kd kd' : List PK} {ws ws' L : List Int} {ds : List (Int × List Int)} {a : Int}
theorem Fine.inI (hf : Fine ws kd ds) (i : Nat) : inI (ws[i]?.getD 0) := hf.ob.bd i
/-- A new reference's words are put one by one. -/
theorem RefC.madeW {b : Nat} {c a q t u : Int} (h : RefC kd ws b c) (hf : Fine ws kd ds) (ha : Go.Proofs.Ytgpidokklhjfdaa.inI a) (hq : Go.Proofs.Ytgpidokklhjfdaa.inI (q + 1)) (ht : Go.Proofs.Ytgpidokklhjfdaa.inI t) (hu : Go.Proofs.Ytgpidokklhjfdaa.inI u) :
    PutT kd ws b 0 a 0 (ws.set (b + 1) a) ∧ PutT kd (ws.set (b + 1) a) b 1 (q + 1) 0 ((ws.set (b + 1) a).set (b + 2) (q + 1)) ∧ PutT kd ((ws.set (b + 1) a).set (b + 2) (q + 1)) b 3 t 0 (((ws.set (b + 1) a).set (b + 2) (q + 1)).set (b + 4) t) ∧
    PutT kd (((ws.set (b + 1) a).set (b + 2) (q + 1)).set (b + 4) t) b 4 u 0 (madeW ws b a q t u) ∧ Fine (madeW ws b a q t u) kd ds ∧ RefC kd (madeW ws b a q t u) b c := by
  have p0 := h.inner hf 0 (by omega)
  have p1 := h.inner hf 1 (by omega)
  have p3 := h.inner hf 3 (by omega)
  have p4 := h.inner hf 4 (by omega)
  have f1 := p0.fine hf ha
  have r1 := h.set hf.wf p0 a
  have f2 := p1.fine f1 hq
  have r2 := r1.set hf.wf p1 (q + 1)
  have f3 := p3.fine f2 ht
  have r3 := r2.set hf.wf p3 t
  exact ⟨h.put hf 0 (by omega) a, r1.put f1 1 (by omega) (q + 1), r2.put f2 3 (by omega) t, r3.put f3 4 (by omega) u, p4.fine f3 hu, r3.set hf.wf p4 u⟩
/-- Clearing, one by one. -/
theorem clrN_step (hf : Fine ws kd ds) (h : ∀ i, i < L.length → ∃ (b : Nat) (c : Int), L[i]?.getD 0 = b ∧ RefC kd ws b c) : ∀ n, n ≤ L.length → Fine (clrN ws L n) kd ds ∧ (∀ (b : Nat) (c : Int), RefC kd ws b c → RefC kd (clrN ws L n) b c) ∧ ∀ (q m : Nat) (y k c l : Int) (f : Bool), At kd ws y q m k c l f → At kd (clrN ws L n) y q m k c l f := by
  intro n
  induction n with
  | zero => intro _; exact ⟨hf, fun b c h => h, fun q m y k c l f h => h⟩
  | succ n ih =>
    intro hn
    obtain ⟨g1, g2, g3⟩ := ih (by omega)
    obtain ⟨b, c, e, hR⟩ := h n (by omega)
    have p0 := hR.inner hf 0 (by omega)
    have eb : (L[n]?.getD 0).toNat + 1 = b + 1 + 0 := by rw [e]; simp
    show Fine ((clrN ws L n).set ((L[n]?.getD 0).toNat + 1) 0) kd ds ∧ (∀ (b : Nat) (c : Int), RefC kd ws b c → RefC kd ((clrN ws L n).set ((L[n]?.getD 0).toNat + 1) 0) b c) ∧ ∀ (q m : Nat) (y k c l : Int) (f : Bool), At kd ws y q m k c l f → At kd ((clrN ws L n).set ((L[n]?.getD 0).toNat + 1) 0) y q m k c l f
    rw [eb]
    exact ⟨p0.fine g1 inI_0, fun b c h => (g2 b c h).set hf.wf p0 0, fun q m y k c l f h => (p0.at' hf.wf).2 (g3 q m y k c l f h)⟩
theorem clrN_put (hf : Fine ws kd ds) (h : ∀ i, i < L.length → ∃ (b : Nat) (c : Int), L[i]?.getD 0 = b ∧ RefC kd ws b c) (n : Nat) (hn : n < L.length) : PutT kd (clrN ws L n) (L[n]?.getD 0) 0 0 0 (clrN ws L (n + 1)) := by
  obtain ⟨g1, g2, _⟩ := clrN_step hf h n (by omega)
  obtain ⟨b, c, e, hR⟩ := h n hn
  show PutT kd (clrN ws L n) (L[n]?.getD 0) 0 0 0 ((clrN ws L n).set ((L[n]?.getD 0).toNat + 1) 0)
  rw [e]
  exact (g2 b c hR).put g1 0 (by omega) 0
/-- What clearing leaves of a word. -/
theorem clrN_get {p : Nat} (hp : ∀ i, i < L.length → (L[i]?.getD 0).toNat + 1 ≠ p) : ∀ n, n ≤ L.length → (clrN ws L n)[p]?.getD 0 = ws[p]?.getD 0 := by
  intro n
  induction n with
  | zero => intro _; rfl
  | succ n ih =>
    intro hn
    show ((clrN ws L n).set ((L[n]?.getD 0).toNat + 1) 0)[p]?.getD 0 = _
    rw [set_get_other _ _ _ _ (hp n (by omega)), ih (by omega)]
theorem ClearT.fine {E : Int} (h : ClearT kd ws L E ws') (hf : Fine ws kd ds) : Fine ws' kd ds := by
  cases h with
  | kind j _ _ _ => exact hf
  | yes h => exact (clrN_step hf h _ (Nat.le_refl _)).1
theorem ReadT.fine {t N E : Int} (h : ReadT kd ws a t N E ws') (hf : Fine ws kd ds) (ht : Go.Proofs.Ytgpidokklhjfdaa.inI t) : Fine ws' kd ds := by
  cases h with
  | kind _ => exact hf
  | ph b _ _ => exact hf
  | plain b c N _ _ _ _ _ => exact hf
  | soft b N e h _ _ => exact (h.inner hf 3 (by omega)).fine hf ht
end

end Go.Proofs.Ytgpidokklhjfdaa

/-
  Objects made one behind the other in a fresh heap of so many pages whose classes are told, and their fields put. Plain facts.
-/
namespace Go.Proofs.Ytgpidokklhjfdaa
open Go.RowKit

theorem Fine.freshD (P : Nat) (ds : List (Int × List Int)) (h1 : 1 ≤ P) (h2 : P ≤ 256) (hd : ds.length ≤ 256) : Fine (zeros (64 * P)) (freshK P) ds := by
  have h := Fine.fresh P h1 h2
  refine ⟨h.wf, ⟨fun a m e => ?_, h.ob.bd⟩, hd, h.len⟩
  obtain ⟨k, c, l, f, g1, g2, g3⟩ := h.ob.head a m e
  exact ⟨k, c, l, f, g1, g2, fun e => by obtain ⟨i, L, _, e2⟩ := g3 e; simp at e2⟩
theorem fresh_noat (P : Nat) (hP : 1 ≤ P) (x : Int) : isAt (freshK P) x = false := by
  refine isAt_no (fun s n e => ?_)
  unfold findI at e
  split at e
  · cases e
  · rw [freshK_find P _ hP] at e; cases e

/-- The objects of a heap, one by one: no others are there. -/
structure OT (kd : List PK) (ws : List Int) (ds : List (Int × List Int)) (n : Nat) (A : Nat → Nat) (kk cc ll : Nat → Int) : Prop where
  fine : Fine ws kd ds
  objs : ∀ j, j < n → ∃ m : Nat, At kd ws (A j : Nat) (A j) m (kk j) (cc j) (ll j) false
  ne : ∀ i j, i < n → j < n → A i = A j → i = j
  all : ∀ x, isAt kd x = true → ∃ j, j < n ∧ x = (A j : Int)
/-- Objects made one behind the other. -/
structure PChain (P : Nat) (ds : List (Int × List Int)) (n : Nat) (kk cc ll : Nat → Int) (W : Nat → List Int) (K : Nat → List PK) (A : Nat → Nat) : Prop where
  w0 : W 0 = zeros (64 * P)
  k0 : K 0 = freshK P
  step : ∀ i, i < n → MakeT (K i) (W i) ds (kk i) (cc i) (ll i) false (A i : Int) 0 (W (i + 1)) (K (i + 1))
  ot : ∀ i, i ≤ n → OT (K i) (W i) ds i A kk cc ll
  free : ∀ i, i ≤ n → (K i).length = P ∧ FreeFrom (K i) (1 + i)
theorem pchain_ex (P : Nat) (ds : List (Int × List Int)) (kk cc ll : Nat → Int) (hP : 1 ≤ P) (hP2 : P ≤ 256) (hd : ds.length ≤ 256) (n : Nat) (hn : n + 1 ≤ P) (hk : ∀ i, i < n → mayH (kk i) (cc i) (ll i) false = true ∧ FitsT ds (kk i) (cc i) (ll i) 0 ∧ pagesI (ll i + 1) ≤ (1 : Nat)) : ∃ W K A, PChain P ds n kk cc ll W K A := by
  induction n with
  | zero =>
    refine ⟨fun _ => zeros (64 * P), fun _ => freshK P, fun _ => 0, rfl, rfl, fun i h => by omega, fun i h => ⟨Fine.freshD P ds hP hP2 hd, fun j hj => by omega, fun i j hi => by omega, fun x e => by rw [fresh_noat P hP x] at e; cases e⟩, fun i h => ⟨freshK_length P, (FreeFrom.fresh P hP).mono (by omega)⟩⟩
  | succ n ih =>
    obtain ⟨W, K, A, hC⟩ := ih (by omega) (fun i hi => hk i (by omega))
    have hO := hC.ot n (Nat.le_refl _)
    have hf := hO.fine
    obtain ⟨hkP, hfree⟩ := hC.free n (Nat.le_refl _)
    obtain ⟨hm, hF, hpg⟩ := hk n (by omega)
    obtain ⟨a, b, kd', t1, r1, e1, g1⟩ := make_from (kd := K n) (ds := ds) (s := 1 + n) (K := 1) (W n) hf.wf hm hF hpg (by omega) (by rw [hkP]; omega) hfree
    obtain ⟨f1, l1⟩ := t1.fine hf
    obtain ⟨ws', hws⟩ : ∃ ws', (fill0 (W n) a b).set a (putH (kk n) (cc n) (ll n) false) = ws' := ⟨_, rfl⟩
    have hat : At kd' ws' (a : Nat) a b (kk n) (cc n) (ll n) false := by rw [← hws]; exact MakeT.at hf.wf hf.len hm r1 e1
    have hold : ∀ (p m : Nat) (k c l : Int) (f : Bool), At (K n) (W n) (p : Nat) p m k c l f → At kd' ws' (p : Nat) p m k c l f := fun p m k c l f h => by rw [← hws]; exact (h.made hf.wf hf.len r1 e1).1
    have hnew : ∀ j, j < n → A j ≠ a := fun j hj e => by
      obtain ⟨m, hm⟩ := hO.objs j hj
      obtain ⟨_, _, _, _, h5, _⟩ := hm.facts hf.wf
      obtain ⟨_, _, _, _, h5', _⟩ := hat.facts f1.wf
      have := (hm.made (x := putH (kk n) (cc n) (ll n) false) hf.wf hf.len r1 e1).2
      omega
    have hall : ∀ x, isAt kd' x = true → x = (a : Int) ∨ isAt (K n) x = true := fun x e => by
      obtain ⟨b', hb', _, _, _, _, _, _, h7⟩ := r1.spec hf.wf
      unfold isAt at e ⊢
      unfold findI at e ⊢
      by_cases h0 : x < 0
      · rw [if_pos h0] at e; cases e
      · rw [if_neg h0] at e ⊢
        rw [h7 x.toNat] at e
        by_cases hin : a ≤ x.toNat ∧ x.toNat < a + b'
        · rw [if_pos hin] at e
          simp at e
          exact .inl e.symm
        · rw [if_neg hin] at e
          exact .inr e
    rw [hws] at t1 f1
    refine ⟨fun i => if i ≤ n then W i else ws', fun i => if i ≤ n then K i else kd', fun i => if i < n then A i else a, hC.w0, hC.k0, ?_, ?_, ?_⟩
    · intro i hi
      show MakeT (if i ≤ n then K i else kd') (if i ≤ n then W i else ws') ds (kk i) (cc i) (ll i) false ((if i < n then A i else a : Nat) : Int) 0 (if i + 1 ≤ n then W (i + 1) else ws') (if i + 1 ≤ n then K (i + 1) else kd')
      rcases Nat.lt_or_ge i n with h | h
      · rw [if_pos (by omega), if_pos (by omega), if_pos h, if_pos (by omega), if_pos (by omega)]
        exact hC.step i h
      · obtain rfl : i = n := by omega
        rw [if_pos (by omega), if_pos (by omega), if_neg (by omega), if_neg (by omega), if_neg (by omega)]
        exact t1
    · intro i hi
      show OT (if i ≤ n then K i else kd') (if i ≤ n then W i else ws') ds i (fun i => if i < n then A i else a) kk cc ll
      rcases Nat.lt_or_ge n i with h | h
      · obtain rfl : i = n + 1 := by omega
        rw [if_neg (by omega), if_neg (by omega)]
        refine ⟨f1, fun j hj => ?_, fun i j hi hj e => ?_, fun x e => ?_⟩
        · show ∃ m : Nat, At kd' ws' ((if j < n then A j else a : Nat) : Int) (if j < n then A j else a) m (kk j) (cc j) (ll j) false
          rcases Nat.lt_or_ge j n with hjn | hjn
          · rw [if_pos hjn]
            obtain ⟨m, hm⟩ := hO.objs j hjn
            exact ⟨m, hold _ _ _ _ _ _ hm⟩
          · obtain rfl : j = n := by omega
            rw [if_neg (by omega)]
            exact ⟨b, hat⟩
        · have e' : (if i < n then A i else a) = (if j < n then A j else a) := e
          rcases Nat.lt_or_ge i n with h1 | h1
          · rcases Nat.lt_or_ge j n with h2 | h2
            · rw [if_pos h1, if_pos h2] at e'; exact hO.ne i j h1 h2 e'
            · rw [if_pos h1, if_neg (by omega)] at e'; exact absurd e' (hnew i h1)
          · rcases Nat.lt_or_ge j n with h2 | h2
            · rw [if_neg (by omega), if_pos h2] at e'; exact absurd e'.symm (hnew j h2)
            · omega
        · rcases hall x e with e | e
          · exact ⟨n, by omega, by show x = ((if n < n then A n else a : Nat) : Int); rw [if_neg (by omega)]; exact e⟩
          · obtain ⟨j, hj, hx⟩ := hO.all x e
            exact ⟨j, by omega, by show x = ((if j < n then A j else a : Nat) : Int); rw [if_pos hj]; exact hx⟩
      · rw [if_pos h, if_pos h]
        have hq := hC.ot i h
        refine ⟨hq.fine, fun j hj => ?_, fun p q hp hq' e => ?_, fun x e => ?_⟩
        · show ∃ m : Nat, At _ _ ((if j < n then A j else a : Nat) : Int) (if j < n then A j else a) m (kk j) (cc j) (ll j) false
          rw [if_pos (by omega)]; exact hq.objs j hj
        · have e' : (if p < n then A p else a) = (if q < n then A q else a) := e
          rw [if_pos (by omega), if_pos (by omega)] at e'; exact hq.ne p q hp hq' e'
        · obtain ⟨j, hj, hx⟩ := hq.all x e
          exact ⟨j, hj, by show x = ((if j < n then A j else a : Nat) : Int); rw [if_pos (by omega)]; exact hx⟩
    · intro i hi
      show (if i ≤ n then K i else kd').length = P ∧ FreeFrom (if i ≤ n then K i else kd') (1 + i)
      rcases Nat.lt_or_ge n i with h | h
      · obtain rfl : i = n + 1 := by omega
        rw [if_neg (by omega)]
        exact ⟨by rw [l1, hkP], g1.mono (by omega)⟩
      · rw [if_pos h]; exact hC.free i h

section
variable {kd : List PK} {ws : List Int} {ds : List (Int × List Int)} {n : Nat} {A : Nat → Nat} {kk cc ll : Nat → Int}
theorem OT.bd (h : OT kd ws ds n A kk cc ll) (j : Nat) (hj : j < n) : 64 ≤ A j ∧ A j < ws.length ∧ ws.length ≤ 16384 := by
  obtain ⟨m, hm⟩ := h.objs j hj
  have h1 := hm.facts h.fine.wf
  have h2 := h.fine.len
  omega
theorem OT.atI (h : OT kd ws ds n A kk cc ll) (j : Nat) (hj : j < n) : isAt kd (A j : Int) = true := by
  obtain ⟨m, hm⟩ := h.objs j hj
  exact isAt_yes hm
theorem OT.inner (h : OT kd ws ds n A kk cc ll) (j t : Nat) (hj : j < n) (ht : (t : Int) < ll j) : Inner kd (A j + 1 + t) := by
  obtain ⟨m, hm⟩ := h.objs j hj
  have h1 := at_room h.fine hm
  exact ⟨A j, m, hm.2.1, by omega, by omega⟩
/-- A field is put. -/
theorem OT.put (h : OT kd ws ds n A kk cc ll) (j t : Nat) (hj : j < n) (ht : (t : Int) < ll j) (x : Int) (hx : inI x) : PutT kd ws (A j) t x 0 (ws.set (A j + 1 + t) x) ∧ OT kd (ws.set (A j + 1 + t) x) ds n A kk cc ll := by
  have hi := h.inner j t hj ht
  obtain ⟨m, hm⟩ := h.objs j hj
  have h1 := at_room h.fine hm
  refine ⟨.yes (A j + 1 + t) (.yes (A j) m t (kk j) (cc j) (ll j) false hm rfl ht h1) (hi.lt h.fine), hi.fine h.fine hx, fun i hi' => ?_, h.ne, h.all⟩
  obtain ⟨m', hm'⟩ := h.objs i hi'
  exact ⟨m', (hi.at' h.fine.wf).2 hm'⟩
end

/-- The first k places from p on are those of Z. -/
def putsK (ws : List Int) (p : Nat) (Z : List Int) : Nat → List Int
  | 0 => ws
  | k + 1 => (putsK ws p Z k).set (p + k) (Z[k]?.getD 0)
theorem putsK_length (ws : List Int) (p : Nat) (Z : List Int) (k : Nat) : (putsK ws p Z k).length = ws.length := by
  induction k with
  | zero => rfl
  | succ k ih => show ((putsK ws p Z k).set _ _).length = _; rw [List.length_set, ih]
section
variable {kd : List PK} {ws : List Int} {ds : List (Int × List Int)} {n : Nat} {A : Nat → Nat} {kk cc ll : Nat → Int}
theorem OT.puts (h : OT kd ws ds n A kk cc ll) (j : Nat) (hj : j < n) (Z : List Int) (hZ : ∀ t : Nat, inI (Z[t]?.getD 0)) (k : Nat) (hk : (k : Int) ≤ ll j) : OT kd (putsK ws (A j + 1) Z k) ds n A kk cc ll := by
  induction k with
  | zero => exact h
  | succ k ih => exact ((ih (by omega)).put j k hj (by omega) _ (hZ k)).2
theorem OT.putsT (h : OT kd ws ds n A kk cc ll) (j : Nat) (hj : j < n) (Z : List Int) (hZ : ∀ t : Nat, inI (Z[t]?.getD 0)) (k : Nat) (hk : ((k + 1 : Nat) : Int) ≤ ll j) : PutT kd (putsK ws (A j + 1) Z k) (A j) k (Z[k]?.getD 0) 0 (putsK ws (A j + 1) Z (k + 1)) :=
  ((h.puts j hj Z hZ k (by omega)).put j k hj (by omega) _ (hZ k)).1
end
/-- The fields of the first objects are put. -/
def phW (W0 : List Int) (A : Nat → Nat) (Zs : Nat → List Int) : Nat → List Int
  | 0 => W0
  | i + 1 => putsK (phW W0 A Zs i) (A i + 1) (Zs i) (Zs i).length
theorem OT.phase {kd : List PK} {ws : List Int} {ds : List (Int × List Int)} {n : Nat} {A : Nat → Nat} {kk cc ll : Nat → Int} (h : OT kd ws ds n A kk cc ll) (Zs : Nat → List Int) (hZ : ∀ i, i < n → ((Zs i).length : Int) ≤ ll i ∧ ∀ t : Nat, inI ((Zs i)[t]?.getD 0)) (i : Nat) (hi : i ≤ n) : OT kd (phW ws A Zs i) ds n A kk cc ll := by
  induction i with
  | zero => exact h
  | succ i ih => exact (ih (by omega)).puts i (by omega) _ (hZ i (by omega)).2 _ (hZ i (by omega)).1

end Go.Proofs.Ytgpidokklhjfdaa

/-
  Graphs by numbers, as gloaminglaw17 makes them: heads, words. Plain facts.
-/
namespace Go.Proofs.Ytgpidokklhjfdaa
open Go.RowKit

def kG (B : Nat → Nat) (i : Nat) : Int := 1 + ((B i % 4 : Nat) : Int)
def cG (B : Nat → Nat) (i : Nat) : Int := if B i % 4 = 0 then 1 else if B i % 4 = 3 then 1 + ((B i / 4 % 3 : Nat) : Int) else 0
def lG (B : Nat → Nat) (i : Nat) : Int := if B i % 4 = 0 then 3 else if B i % 4 = 3 then 5 else 1 + ((B i / 4 % 5 : Nat) : Int)
/-- The one class. -/
def dsG : List (Int × List Int) := [(3, [0, 2])]
theorem pages_few (n : Int) (h1 : 1 ≤ n) (h2 : n ≤ 32) : pagesI n ≤ (1 : Nat) := by
  unfold pagesI
  split
  · omega
  · split <;> omega
theorem lG_bd (B : Nat → Nat) (i : Nat) : 1 ≤ lG B i ∧ lG B i ≤ 5 := by
  unfold lG
  split
  · omega
  · split <;> omega
theorem headG (B : Nat → Nat) (i : Nat) : mayH (kG B i) (cG B i) (lG B i) false = true ∧ FitsT dsG (kG B i) (cG B i) (lG B i) 0 ∧ pagesI (lG B i + 1) ≤ (1 : Nat) := by
  have hb := lG_bd B i
  refine ⟨?_, ?_, pages_few _ (by omega) (by omega)⟩
  all_goals
    unfold kG cG lG
    rcases (show B i % 4 = 0 ∨ B i % 4 = 1 ∨ B i % 4 = 2 ∨ B i % 4 = 3 by omega) with e | e | e | e
  · rw [e]; simp; decide
  · rw [e]; simp; exact may_refs _ (by omega) (by omega)
  · rw [e]; simp; exact may_data _ (by omega) (by omega)
  · rw [e]; simp; exact mayH_ref (by omega) (by omega)
  · rw [e]; simp; exact .yes 0 [0, 2] rfl rfl rfl
  · rw [e]; simp; exact .other (by omega)
  · rw [e]; simp; exact .other (by omega)
  · rw [e]; simp; exact .other (by omega)

/-- Which fields are addresses. -/
def isG (kk : Int) (k : Nat) : Bool := kk == 2 || (kk == 1 && k != 1) || (kk == 4 && (k == 0 || k == 2))
def numG (B : Nat → Nat) (m i k : Nat) : Nat := B ((i * 7 + k * 3 + 1) % m) + 13 * i + 5 * k
/-- A field, ahead of what is laid for references. -/
def wG1 (B : Nat → Nat) (m : Nat) (L : List Int) (kk : Int) (i k : Nat) : Int :=
  if isG kk k = true then (if 0 < numG B m i k % 3 then L[numG B m i k % L.length]?.getD 0 else 0) else (numG B m i k : Int)
def wG (B : Nat → Nat) (m : Nat) (L : List Int) (kk : Int) (i k : Nat) : Int :=
  if kk = 4 then (if k = 1 then ((B ((i * 5 + 2) % m) % 4 : Nat) : Int) - 1 else if k = 2 then 0 else if k = 3 then (B (i % m) : Int) else if k = 4 then (i : Int) + 1 else wG1 B m L kk i k) else wG1 B m L kk i k
def wordsG (B : Nat → Nat) (m : Nat) (L : List Int) (kk ll : Int) (i : Nat) : List Int := (List.range ll.toNat).map (wG B m L kk i)
theorem wordsG_length (B : Nat → Nat) (m : Nat) (L : List Int) (kk ll : Int) (i : Nat) : (wordsG B m L kk ll i).length = ll.toNat := by simp [wordsG]
theorem wordsG_get (B : Nat → Nat) (m : Nat) (L : List Int) (kk ll : Int) (i k : Nat) (h : k < ll.toNat) : (wordsG B m L kk ll i)[k]?.getD 0 = wG B m L kk i k := by simp [wordsG, h]
theorem wG1_in {B : Nat → Nat} {m : Nat} {L : List Int} (hB : ∀ i, B i < 256) (hL : ∀ t : Nat, inI (L[t]?.getD 0)) (kk : Int) (i k : Nat) (hi : i ≤ 1000) (hk : k ≤ 1000) : inI (wG1 B m L kk i k) := by
  unfold wG1
  split
  · split
    · exact hL _
    · exact inI_0
  · have := hB ((i * 7 + k * 3 + 1) % m)
    unfold numG inI; omega
theorem wG_in {B : Nat → Nat} {m : Nat} {L : List Int} (hB : ∀ i, B i < 256) (hL : ∀ t : Nat, inI (L[t]?.getD 0)) (kk : Int) (i k : Nat) (hi : i ≤ 1000) (hk : k ≤ 1000) : inI (wG B m L kk i k) := by
  unfold wG
  have h1 := hB (i % m)
  split
  · split
    · unfold inI; omega
    · split
      · exact inI_0
      · split
        · unfold inI; omega
        · split
          · unfold inI; omega
          · exact wG1_in hB hL kk i k hi hk
  · exact wG1_in hB hL kk i k hi hk
theorem wordsG_in {B : Nat → Nat} {m : Nat} {L : List Int} (hB : ∀ i, B i < 256) (hL : ∀ t : Nat, inI (L[t]?.getD 0)) (kk ll : Int) (i : Nat) (hi : i ≤ 1000) (hl : ll ≤ 1000) (t : Nat) : inI ((wordsG B m L kk ll i)[t]?.getD 0) := by
  by_cases h : t < ll.toNat
  · rw [wordsG_get _ _ _ _ _ _ _ h]; exact wG_in hB hL kk i t hi (by omega)
  · rw [List.getElem?_eq_none (by rw [wordsG_length]; omega)]; exact inI_0

/-- A graph: its objects made, its fields put. -/
structure GraphT (B : Nat → Nat) (m n : Nat) (W : Nat → List Int) (K : Nat → List PK) (A : Nat → Nat) : Prop where
  ch : PChain 60 dsG n (kG B) (cG B) (lG B) W K A
  few : n ≤ 24
  lt : ∀ i, B i < 256
theorem graph_ex (B : Nat → Nat) (m n : Nat) (hB : ∀ i, B i < 256) (hn : n ≤ 24) : ∃ W K A, GraphT B m n W K A := by
  obtain ⟨W, K, A, h⟩ := pchain_ex 60 dsG (kG B) (cG B) (lG B) (by omega) (by omega) (by simp [dsG]) n (by omega) (fun i _ => headG B i)
  exact ⟨W, K, A, h, hn, hB⟩
/-- Its words. -/
def gZ (B : Nat → Nat) (m n : Nat) (A : Nat → Nat) (i : Nat) : List Int := wordsG B m (aL A n) (kG B i) (lG B i) i
def gW (B : Nat → Nat) (m n : Nat) (W : Nat → List Int) (A : Nat → Nat) (i : Nat) : List Int := phW (W n) A (gZ B m n A) i
section
variable {B : Nat → Nat} {m n : Nat} {W : Nat → List Int} {K : Nat → List PK} {A : Nat → Nat}
theorem GraphT.bd (h : GraphT B m n W K A) (t : Nat) : inI ((aL A n)[t]?.getD 0) := by
  by_cases ht : t < n
  · rw [aL_get A n t ht]
    have := (h.ch.ot n (Nat.le_refl _)).bd t ht
    unfold inI; omega
  · rw [List.getElem?_eq_none (by rw [aL_length]; omega)]; exact inI_0
theorem GraphT.zs (h : GraphT B m n W K A) (i : Nat) (hi : i < n) : ((gZ B m n A i).length : Int) ≤ lG B i ∧ ∀ t : Nat, inI ((gZ B m n A i)[t]?.getD 0) := by
  have h1 := lG_bd B i
  have h2 := h.few
  refine ⟨by unfold gZ; rw [wordsG_length]; omega, fun t => wordsG_in h.lt h.bd _ _ _ (by omega) (by omega) t⟩
theorem GraphT.ot (h : GraphT B m n W K A) (i : Nat) (hi : i ≤ n) : OT (K n) (gW B m n W A i) dsG n A (kG B) (cG B) (lG B) := (h.ch.ot n (Nat.le_refl _)).phase _ (fun i hi => h.zs i hi) i hi
end

end Go.Proofs.Ytgpidokklhjfdaa

/-
  A list of one's own whose elements take several cells each: where each cell lies.
-/
namespace Go.Proofs.Ytgpidokklhjfdaa
open Go.RowKit

theorem wide_length (m : Nat) (vs : List (List Value)) (hl : ∀ v, v ∈ vs → v.length = m) : vs.flatten.length = vs.length * m := by
  induction vs with
  | nil => simp
  | cons d vs ih =>
    have h1 := hl d (by simp)
    have h2 := ih (fun v hv => hl v (by simp [hv]))
    simp only [List.flatten_cons, List.length_append, List.length_cons, h1, h2, Nat.succ_mul]
    omega
theorem wide_get (m : Nat) (vs : List (List Value)) (hl : ∀ v, v ∈ vs → v.length = m) (i : Nat) (v : List Value) (h : vs[i]? = some v) (t : Nat) (ht : t < m) : vs.flatten[i * m + t]? = v[t]? := by
  induction vs generalizing i with
  | nil => simp at h
  | cons d vs ih =>
    have hd : d.length = m := hl d (by simp)
    rw [List.flatten_cons]
    cases i with
    | zero => simp at h; subst h; rw [List.getElem?_append_left (by omega)]; simp
    | succ i =>
      simp at h
      rw [List.getElem?_append_right (by rw [hd, Nat.succ_mul]; omega), hd, show (i + 1) * m + t - m = i * m + t by rw [Nat.succ_mul]; omega]
      exact ih (fun v hv => hl v (by simp [hv])) i h
theorem wide_cells {w : World} {base n vc m : Nat} {e : TypeId} {va : Option Addr} {vs : List (List Value)} (hown : w.ownsRow base e m (.slice va n vc) n vs.flatten) (hl : ∀ v, v ∈ vs → v.length = m) (hn : vs.length = n) (h0 : 0 < n) :
    ∃ b, va = some ⟨b, 0, none⟩ ∧ base ≤ b ∧ b < w.heap.size ∧ ∀ (i : Nat) (v : List Value) (t : Nat), vs[i]? = some v → t < m → w.cell? ⟨b, i * m + t, none⟩ = v[t]? := by
  rcases hown.2 with ⟨h1, h0⟩ | ⟨g, cap, cur, h1, h2, h3, h4, h5, h6, h7⟩
  · omega
  · cases h1
    refine ⟨g, rfl, h2, lt_of_block h3, fun i v t hv ht => ?_⟩
    have hi : i < vs.length := by
      rcases Nat.lt_or_ge i vs.length with e | e
      · exact e
      · rw [List.getElem?_eq_none e] at hv; cases hv
    rw [hn] at hi
    have e := wide_get m vs hl i v hv t ht
    have hlt : i * m + t < n * m := by
      have : (i + 1) * m ≤ n * m := Nat.mul_le_mul_right m (by omega)
      rw [Nat.succ_mul] at this
      omega
    rw [← h7, List.getElem?_take, if_pos hlt] at e
    have e' : cur[i * m + t]? = v[t]? := by simpa using e
    simp [World.cell?, h3, e']
/-- A row of one's own: its block, if it has one. -/
theorem own_far {w : World} {base n vc m : Nat} {e : TypeId} {va : Option Addr} {xs : List Value} (h : w.ownsRow base e m (.slice va n vc) n xs) : ∀ a, va = some a → base ≤ a.block ∧ a.block < w.heap.size := by
  intro a e
  rcases h.2 with ⟨h1, _⟩ | ⟨g, cap, cur, h1, h2, h3, _⟩
  · cases h1; cases e
  · cases h1; cases e; exact ⟨h2, lt_of_block h3⟩
theorem own_blk {va : Option Addr} {n vc k : Nat} (h : (Value.slice va n vc).ownBlock = some k) : ∃ a, va = some a ∧ a.block = k := by
  cases va with
  | none => simp [Value.ownBlock] at h
  | some a => simp [Value.ownBlock] at h; exact ⟨a, rfl, h⟩

end Go.Proofs.Ytgpidokklhjfdaa

/-
  The heads of gloaminglaw17, by numbers.
-/
namespace Go.Proofs.Ytgpidokklhjfdaa
open Go.RowKit

theorem Try.infoHead17 : (Try.prog.info? 32).map (fun i => (i.zero, i.size, i.bytes)) = some (some (.agg #[.int .i64 0, .int .i64 0, .int .i64 0, .bool false]), 4, 32) := by kernel_rfl
/-- The heads, cell by cell. -/
def hG (B : Nat → Nat) (i : Nat) : List Value := [.int .i64 (kG B i), .int .i64 (cG B i), .int .i64 (lG B i), .bool false]
def hsG (B : Nat → Nat) (q : Nat) : List (List Value) := (List.range q).map (hG B)
theorem hsG_length (B : Nat → Nat) (q : Nat) : (hsG B q).length = q := by simp [hsG]
theorem hsG_snoc (B : Nat → Nat) (q : Nat) : (hsG B (q + 1)).flatten = (hsG B q).flatten ++ hG B q := by simp [hsG, List.range_succ]
theorem hsG_each (B : Nat → Nat) (q : Nat) : ∀ v, v ∈ hsG B q → v.length = 4 := by
  intro v hv
  obtain ⟨i, _, rfl⟩ := List.mem_map.1 hv
  rfl
theorem hsG_get (B : Nat → Nat) (q i : Nat) (h : i < q) : (hsG B q)[i]? = some (hG B i) := by simp [hsG, h]
theorem hG_one (B : Nat → Nat) (i : Nat) : ∀ u, u ∈ hG B i → u.oneCell' = true := by
  intro u hu
  simp [hG] at hu
  rcases hu with rfl | rfl | rfl | rfl <;> rfl
theorem own_shape {w : World} {base n : Nat} {e : TypeId} {size : Nat} {v : Value} {xs : List Value} (h : w.ownsRow base e size v n xs) : ∃ va vc, v = .slice va n vc := by
  rcases h.2 with ⟨rfl, h0⟩ | ⟨g, cap, cur, h1, _⟩
  · subst h0; exact ⟨none, 0, rfl⟩
  · exact ⟨_, _, h1⟩
def hdB (k c l : Int) : Obj := .cells #[.int .i64 k, .int .i64 c, .int .i64 l, .bool false] 32 (0, 0)
theorem hdB_cells {w : World} {bx : Nat} {k c l : Int} (h : w.heap[bx]? = some (hdB k c l)) : (w.cell? ⟨bx, 0, none⟩ = some (.int .i64 k) ∧ w.frozen? ⟨bx, 0, none⟩ = false) ∧ (w.cell? ⟨bx, 1, none⟩ = some (.int .i64 c) ∧ w.frozen? ⟨bx, 1, none⟩ = false) ∧ (w.cell? ⟨bx, 2, none⟩ = some (.int .i64 l) ∧ w.frozen? ⟨bx, 2, none⟩ = false) ∧ (w.cell? ⟨bx, 3, none⟩ = some (.bool false) ∧ w.frozen? ⟨bx, 3, none⟩ = false) := by
  unfold hdB at h
  refine ⟨⟨?_, ?_⟩, ⟨?_, ?_⟩, ⟨?_, ?_⟩, ⟨?_, ?_⟩⟩ <;> simp [World.cell?, World.frozen?, h]
theorem hdB_put {w : World} {bx : Nat} {k c l c' l' : Int} (h : w.heap[bx]? = some (hdB k c l)) : ((w.setCell ⟨bx, 1, none⟩ (.int .i64 c')).setCell ⟨bx, 2, none⟩ (.int .i64 l')).heap[bx]? = some (hdB k c' l') ∧ Keep [bx] w ((w.setCell ⟨bx, 1, none⟩ (.int .i64 c')).setCell ⟨bx, 2, none⟩ (.int .i64 l')) := by
  refine ⟨?_, (Keep.setCell (S := [bx]) w (a := ⟨bx, 1, none⟩) _ (by simp)).trans (Keep.setCell (S := [bx]) _ (a := ⟨bx, 2, none⟩) _ (by simp))⟩
  have h1 := heap_setCell_same w bx 1 _ _ (.int .i64 c') h
  have h2 := heap_setCell_same _ bx 2 _ _ (.int .i64 l') h1
  simpa [hdB] using h2

set_option maxRecDepth 100000 in
set_option maxHeartbeats 6400000 in
theorem heads17 (no : Option Addr) (m nc : Nat) (B : Nat → Nat) (w : World) (hU : U8At w no m B) (hm63 : m ≤ 9223372036854775807) :
    Calls Try.prog 45 #[.slice no m nc] w fun e w' => ∃ (va : Option Addr) (vc : Nat), e = .returned (.slice va (min m 24) vc) ∧ w'.ownsRow w.heap.size 32 4 (.slice va (min m 24) vc) (min m 24) (hsG B (min m 24)).flatten ∧ Keep [] w w' := by
  obtain ⟨i0, hi, hz0, hz1, hz2⟩ := info_parts Try.infoHead17
  have hI : Hid (Try.prog.info? 32 = some i0 ∧ i0.zero = some (.agg #[.int .i64 0, .int .i64 0, .int .i64 0, .bool false]) ∧ i0.size = 4 ∧ i0.bytes = 32) := ⟨hi, hz0, hz1, hz2⟩
  have HU := hid hU
  clear hi hz0 hz1 hz2 hU
  go_enter Try.func45, Try.ntmps45
  go_wp2_with fail
  go_loopw [3, 4] (fun v i wr => ∃ (j vc : Nat) (va : Option Addr), v = .slice va j vc ∧ j ≤ m ∧ j ≤ 24 ∧ i = .int .i64 j ∧ Hid (wr.ownsRow w.heap.size 32 4 (.slice va j vc) j (hsG B j).flatten) ∧ Hid (Keep [] w wr)) (fun _ i _ => 24 - (intOf i).toNat)
  case atStart => exact ⟨0, 0, none, rfl, by omega, by omega, rfl, World.ownsRow_nil _ _ _ _, Keep.refl _ _⟩
  case round =>
    obtain ⟨j, vc, va, rfl, hjm, hjo, rfl, HO, HK⟩ := hrel
    by_cases hlt : j < m ∧ j < 24
    · obtain ⟨hlm, hlo⟩ := hlt
      have d1 : decide ((j : Int) < (m : Int)) = true := decide_eq_true (by omega)
      have d2 : decide ((j : Int) < (24 : Int)) = true := decide_eq_true (by omega)
      obtain ⟨nb, no', rfl, hnb, hcn⟩ := HU.out.cells (by omega)
      have HNB := (show Hid (∀ wz, Keep [] wr wz → wz.cell? ⟨nb, no' + j, none⟩ = some (.int .u8 (B j))) from fun wz K => ((HK.out.trans K).cell hnb (by simp) (no' + j)).trans (hcn j hlm))
      have hB := HU.out.lt j
      have HS := hid (hsG_snoc B j)
      have HH := (show Hid (hG B j = [.int .i64 (kG B j), .int .i64 (cG B j), .int .i64 (lG B j), .bool false]) from rfl)
      obtain ⟨b0, hb0⟩ : ∃ b0, B j = b0 := ⟨_, rfl⟩
      have HKG := (show Hid (kG B j = 1 + ((b0 % 4 : Nat) : Int)) from by show _ = _; unfold kG; rw [hb0])
      have HCG := (show Hid (cG B j = if b0 % 4 = 0 then 1 else if b0 % 4 = 3 then 1 + ((b0 / 4 % 3 : Nat) : Int) else 0) from by show _ = _; unfold cG; rw [hb0])
      have HLG := (show Hid (lG B j = if b0 % 4 = 0 then 3 else if b0 % 4 = 3 then 5 else 1 + ((b0 / 4 % 5 : Nat) : Int)) from by show _ = _; unfold lG; rw [hb0])
      rw [hb0] at HNB hB
      obtain ⟨t, ht⟩ : ∃ t, b0 % 4 = t := ⟨_, rfl⟩
      obtain ⟨u, hu⟩ : ∃ u, b0 / 4 = u := ⟨_, rfl⟩
      obtain ⟨s, hs⟩ : ∃ s, u % 5 = s := ⟨_, rfl⟩
      obtain ⟨r, hr⟩ : ∃ r, u % 3 = r := ⟨_, rfl⟩
      have ht1 : (b0 : Int) % 4 = t := by omega
      have hu1 : (b0 : Int) / 4 = u := by omega
      have hs1 : (u : Int) % 5 = s := by omega
      have hr1 : (u : Int) % 3 = r := by omega
      have ht2 : (b0 : Int).tmod 4 = t := by rw [Int.tmod_eq_emod_of_nonneg (by omega)]; exact ht1
      have hu2 : (b0 : Int).tdiv 4 = u := by rw [Int.tdiv_eq_ediv_of_nonneg (by omega)]; exact hu1
      have hs2 : (u : Int).tmod 5 = s := by rw [Int.tmod_eq_emod_of_nonneg (by omega)]; exact hs1
      have hr2 : (u : Int).tmod 3 = r := by rw [Int.tmod_eq_emod_of_nonneg (by omega)]; exact hr1
      have ht4 : t < 4 := by omega
      have hs5 : s < 5 := by omega
      have hr3 : r < 3 := by omega
      rw [ht] at HKG HCG HLG
      rw [hu, hr] at HCG
      rw [hu, hs] at HLG
      clear hcn hb0 ht hu hs hr
      go_upto_region 5 with fail
      go_cut [5] from 16 to 31 (fun v wz => ∃ bx : Nat, v = .pointer (some ⟨bx, 0, none⟩) ∧ Hid (wr.heap.size ≤ bx ∧ Keep [] wr wz ∧ wz.heap[bx]? = some (hdB (1 + (t : Int)) 0 (1 + (s : Int)))))
      case first =>
        have k1 : wr.drew.cell? ⟨nb, no' + j, none⟩ = some (.int .u8 b0) := HNB.out _ (Keep.drew [] _)
        have k2 : ∀ o, (wr.alloc o).drew.cell? ⟨nb, no' + j, none⟩ = some (.int .u8 b0) := fun o => HNB.out _ ((Keep.alloc [] _ o).trans (Keep.drew [] _))
        go_region
        have hx := heap_alloc_new wr (hdB (1 + (t : Int)) 0 (1 + (s : Int)))
        clear k1 k2
        go_wp2_with fail
        go_meet
        exact ⟨wr.heap.size, rfl, Nat.le_refl _, (Keep.alloc [] wr _).trans (Keep.drew [] _), hx⟩
      case rest =>
        obtain ⟨bx, rfl, HB⟩ := hcut
        obtain ⟨w6, rfl⟩ : ∃ w6, w6 = wc := ⟨_, rfl⟩
        obtain ⟨hbx, hK6, hx6⟩ := HB.out
        have HK6 := hid hK6
        have HBX := hid hbx
        obtain ⟨⟨y0, z0⟩, ⟨y1, z1⟩, ⟨y2, z2⟩, _⟩ := hdB_cells hx6
        have HX6 := hid hx6
        clear HB hbx hK6 hx6
        go_upto_block 2 with fail
        go_cut [] from 34 to 34 (fun wz => Hid (Keep [] wr wz ∧ wz.heap[bx]? = some (hdB (kG B j) (cG B j) (lG B j))))
        case first =>
          have HKF := (show Hid (∀ w7, Keep [bx] w6 w7 → Keep [] wr w7) from fun w7 K => ((HK6.out.mono (T := [bx]) (by simp)).trans K).drop (by intro k hk hkw; simp at hk; have := HBX.out; omega))
          have hm := HNB.out w6 HK6.out
          rcases (show t = 0 ∨ t = 3 ∨ (t = 1 ∨ t = 2) by omega) with rfl | rfl | h12
          · have hp := hdB_put (c' := 1) (l' := 3) HX6.out
            have HP := hid hp
            clear hp
            go_wp2_with fail
            go_meet
            refine (show Hid _ from ⟨HKF.out _ HP.out.2, ?_⟩)
            rw [HKG.out, HCG.out, HLG.out]
            exact HP.out.1
          · have hp := hdB_put (c' := 1 + (r : Int)) (l' := 5) HX6.out
            have HP := hid hp
            clear hp
            go_wp2_with fail
            go_meet
            refine (show Hid _ from ⟨HKF.out _ HP.out.2, ?_⟩)
            rw [HKG.out, HCG.out, HLG.out]
            exact HP.out.1
          · have h1 : ((1 + (t : Int)) == 1) = false := by rw [beq_eq_false_iff_ne]; omega
            have h4 : ((1 + (t : Int)) == 4) = false := by rw [beq_eq_false_iff_ne]; omega
            go_wp2_with fail
            go_meet
            refine (show Hid _ from ⟨HK6.out, ?_⟩)
            rw [HKG.out, HCG.out, HLG.out, if_neg (by omega), if_neg (by omega), if_neg (by omega), if_neg (by omega)]
            exact HX6.out
        case rest =>
          obtain ⟨w7, rfl⟩ : ∃ w7, w7 = wc := ⟨_, rfl⟩
          obtain ⟨hK7, hx7⟩ := hcut.out
          obtain ⟨⟨x0, _⟩, ⟨x1, _⟩, ⟨x2, _⟩, ⟨x3, _⟩⟩ := hdB_cells hx7
          have HK7 := hid hK7
          have hws := HK.out.size
          have hws7 := hK7.size
          clear hcut hK7 hx7 HK6 HX6 y0 y1 y2 z0 z1 z2
          go_wp2_with (at_builtin; refine wpList_append_own _ rfl (.tmp 50) (.tmp 52) 57 rfl w.heap.size 32 i0 (.agg #[.int .i64 0, .int .i64 0, .int .i64 0, .bool false]) 4 32 Try.underlying57 hI.out.1 hI.out.2.1 hI.out.2.2.1 hI.out.2.2.2 rfl (by decide) (.slice va j vc) j _ rfl ((own_keep HO.out HK7.out (by simp)).alloc _) ⟨w7.heap.size, 0, none⟩ 1 1 (hG B j) rfl rfl (World.news_of_block (heap_alloc_new w7 _)) (hG_one B j) (by unfold maxLen; omega) (by omega) (by simp; omega) ?_; intro v8 w8 hown8 hgrow8 hnil8; have hK8 := hid (((HK.out.trans HK7.out).trans (Keep.alloc [] w7 _)).grown hgrow8 (own_block HO.out)); rw [← HS.out] at hown8; obtain ⟨va8, vc8, rfl⟩ := own_shape hown8; have HO8 := hid hown8; clear hown8 hgrow8 hnil8)
          go_roundw
          case rel => exact ⟨j + 1, vc8, va8, rfl, by omega, by omega, by go_num, HO8, hK8⟩
          case measure => simp [intOf]; omega
    · have hmin : min m 24 = j := by omega
      by_cases hlm : j < m
      · have d1 : decide ((j : Int) < (m : Int)) = true := decide_eq_true (by omega)
        have d2 : decide ((j : Int) < (24 : Int)) = false := decide_eq_false (by omega)
        go_wp2_with fail
        go_ret
        exact ⟨va, vc, by rw [hmin]; rfl, by rw [hmin]; exact HO.out, HK.out⟩
      · have d1 : decide ((j : Int) < (m : Int)) = false := decide_eq_false (by omega)
        go_wp2_with fail
        go_ret
        exact ⟨va, vc, by rw [hmin]; rfl, by rw [hmin]; exact HO.out, HK.out⟩

end Go.Proofs.Ytgpidokklhjfdaa

/-
  The words of gloaminglaw17, by numbers: what an object's fields are put to.
-/
namespace Go.Proofs.Ytgpidokklhjfdaa
open Go.RowKit

set_option maxRecDepth 100000 in
set_option maxHeartbeats 1600000 in
theorem n3_17 (no : Option Addr) (m nc i : Nat) (B : Nat → Nat) (w : World) (hU : U8At w no m B) (hm : 1 ≤ m) (hi : i ≤ 1000) (hm63 : m ≤ 9223372036854775807) :
    Calls Try.prog 66 #[.slice no m nc, .int .i64 i] w fun e w' => e = .returned (.int .i64 (((B ((i * 5 + 2) % m) % 4 : Nat) : Int) - 1)) ∧ w = w' := by
  obtain ⟨p, hp⟩ : ∃ p, (i * 5 + 2) % m = p := ⟨_, rfl⟩
  have hpm : p < m := by rw [← hp]; exact Nat.mod_lt _ (by omega)
  have hpi : ((i : Int) * 5 + 2) % (m : Int) = p := by rw [← hp]; rfl
  have hpt : ((i : Int) * 5 + 2).tmod (m : Int) = p := by rw [Int.tmod_eq_emod_of_nonneg (by omega)]; exact hpi
  obtain ⟨nb, no', rfl, hnb, hcn⟩ := hU.cells (by omega)
  have hc := hcn p hpm
  have hB := hU.lt p
  rw [hp]
  obtain ⟨b0, hb0⟩ : ∃ b0, B p = b0 := ⟨_, rfl⟩
  rw [hb0] at hc hB ⊢
  obtain ⟨t, ht⟩ : ∃ t, b0 % 4 = t := ⟨_, rfl⟩
  have ht1 : (b0 : Int) % 4 = t := by omega
  have ht2 : (b0 : Int).tmod 4 = t := by rw [Int.tmod_eq_emod_of_nonneg (by omega)]; exact ht1
  have ht4 : t < 4 := by omega
  rw [ht]
  clear hU hcn hp hb0 ht
  go_enter Try.func66, Try.ntmps66
  go_wp2_with fail
  go_ret
  exact ⟨rfl, rfl⟩

/-- How far the words have come. -/
structure WAt (B : Nat → Nat) (m : Nat) (L : List Int) (kk : Int) (i q k : Nat) (X : List Int) : Prop where
  len : X.length = q
  done : ∀ t, t < k → X[t]?.getD 0 = wG1 B m L kk i t
  rest : ∀ t, k ≤ t → X[t]?.getD 0 = 0
theorem WAt.start (B : Nat → Nat) (m : Nat) (L : List Int) (kk : Int) (i q : Nat) : WAt B m L kk i q 0 (zeros q) := ⟨zeros_length q, fun t h => by omega, fun t _ => zeros_get q t⟩
theorem WAt.put {B : Nat → Nat} {m : Nat} {L : List Int} {kk : Int} {i q k : Nat} {X : List Int} (h : WAt B m L kk i q k X) (hk : k < q) (x : Int) (hx : wG1 B m L kk i k = x) : WAt B m L kk i q (k + 1) (X.set k x) := by
  refine ⟨by rw [List.length_set]; exact h.len, fun t ht => ?_, fun t ht => ?_⟩
  · by_cases e : t = k
    · subst e; rw [set_get_same _ _ _ (by rw [h.len]; exact hk), hx]
    · rw [set_get_other _ _ _ _ (fun e' => e e'.symm)]; exact h.done t (by omega)
  · rw [set_get_other _ _ _ _ (by omega)]; exact h.rest t (by omega)
theorem WAt.leave {B : Nat → Nat} {m : Nat} {L : List Int} {kk : Int} {i q k : Nat} {X : List Int} (h : WAt B m L kk i q k X) (hx : wG1 B m L kk i k = 0) : WAt B m L kk i q (k + 1) X := by
  refine ⟨h.len, fun t ht => ?_, fun t ht => h.rest t (by omega)⟩
  by_cases e : t = k
  · subst e; rw [hx]; exact h.rest t (Nat.le_refl _)
  · exact h.done t (by omega)
theorem list_ext {X Y : List Int} (hl : X.length = Y.length) (h : ∀ t, t < Y.length → X[t]?.getD 0 = Y[t]?.getD 0) : X = Y := by
  refine List.ext_getElem hl (fun t h1 h2 => ?_)
  have := h t h2
  rw [List.getElem?_eq_getElem h1, List.getElem?_eq_getElem h2] at this
  exact this
theorem WAt.plain {B : Nat → Nat} {m : Nat} {L : List Int} {kk : Int} {i q : Nat} {X : List Int} (h : WAt B m L kk i q q X) (hk : kk ≠ 4) : X = wordsG B m L kk q i := by
  refine list_ext (by rw [h.len, wordsG_length]; omega) (fun t ht => ?_)
  rw [wordsG_length] at ht
  rw [h.done t (by omega), wordsG_get _ _ _ _ _ _ _ ht]
  unfold wG; rw [if_neg hk]
theorem WAt.ref {B : Nat → Nat} {m : Nat} {L : List Int} {i : Nat} {X : List Int} (h : WAt B m L 4 i 5 5 X) : (((X.set 2 0).set 1 (((B ((i * 5 + 2) % m) % 4 : Nat) : Int) - 1)).set 3 (B (i % m) : Int)).set 4 ((i : Int) + 1) = wordsG B m L 4 5 i := by
  refine list_ext (by simp [h.len, wordsG_length]) (fun t ht => ?_)
  rw [wordsG_length] at ht
  rw [wordsG_get _ _ _ _ _ _ _ ht]
  have hl := h.len
  have ht5 : t < 5 := by simpa using ht
  unfold wG
  rw [if_pos rfl]
  rcases (show t = 0 ∨ t = 1 ∨ t = 2 ∨ t = 3 ∨ t = 4 by omega) with rfl | rfl | rfl | rfl | rfl
  · rw [set_get_other _ _ _ _ (by omega), set_get_other _ _ _ _ (by omega), set_get_other _ _ _ _ (by omega), set_get_other _ _ _ _ (by omega), h.done 0 (by omega)]
    simp
  · rw [set_get_other _ _ _ _ (by omega), set_get_other _ _ _ _ (by omega), set_get_same _ _ _ (by simp [hl])]
    simp
  · rw [set_get_other _ _ _ _ (by omega), set_get_other _ _ _ _ (by omega), set_get_other _ _ _ _ (by omega), set_get_same _ _ _ (by simp [hl])]
    simp
  · rw [set_get_other _ _ _ _ (by omega), set_get_same _ _ _ (by simp [hl])]
    simp
  · rw [set_get_same _ _ _ (by simp [hl])]
    simp

set_option maxRecDepth 100000 in
set_option maxHeartbeats 12800000 in
theorem words17 (kk cc : Int) (q : Nat) (la : Option Addr) (n lc : Nat) (L : List Int) (no : Option Addr) (m nc i : Nat) (B : Nat → Nat) (w : World) (hk : 1 ≤ kk ∧ kk ≤ 4) (hq : 1 ≤ q ∧ q ≤ 5) (h4 : kk = 4 → q = 5) (hA : IntsAt w la L) (hn : L.length = n) (hn1 : 1 ≤ n) (hn2 : n ≤ 1000) (hU : U8At w no m B) (hm : 1 ≤ m) (hi : i ≤ 1000) (hm63 : m ≤ 9223372036854775807) :
    Calls Try.prog 46 #[.agg #[.int .i64 kk, .int .i64 cc, .int .i64 q, .bool false], .slice la n lc, .slice no m nc, .int .i64 i] w fun e w' => ∃ g, e = .returned (.slice (some ⟨g, 0, none⟩) q q) ∧ w.heap.size ≤ g ∧ Row w' 3 g (wordsG B m L kk q i) ∧ Keep [] w w' := by
  have hmk : ∀ w, (Instr.makeSlice 28 (.int .i64 (q : Int)) (.int .i64 (q : Int))).run Try.prog w = .ok (.slice (some ⟨w.heap.size, 0, none⟩) q q) (w.alloc (.cells (madeCells #[.int .i64 0] q) 3)) :=
    fun w => run_make_row' (P := Try.prog) 28 3 (.int .i64 0) 8 Try.underlying28 Try.infoIntC rfl .i64 .i64 q (by omega) (by omega) w
  have HA := hid hA
  have HN := hid hn
  have HU := hid hU
  have H4 := hid h4
  clear hA hn hU h4
  go_enter Try.func46, Try.ntmps46
  go_wp2_with fail
  have hb1 := heap_alloc_new w (hdB kk cc q)
  have hb2 := (Keep.alloc [] (w.alloc (hdB kk cc q)) (.cells (madeCells #[.int .i64 0] q) 3)).blk hb1 (by simp)
  have hR2 := Row.made (w.alloc (hdB kk cc q)) 3 q
  have hK2 : Keep [] w ((w.alloc (hdB kk cc q)).alloc (.cells (madeCells #[.int .i64 0] q) 3)) := (Keep.alloc [] w _).trans (Keep.alloc [] _ _)
  have hz : (w.alloc (hdB kk cc q)).heap.size = w.heap.size + 1 := by simp
  rw [hz] at hR2
  unfold hdB at hb2 hR2 hK2
  clear hb1 hz hmk
  generalize ((w.alloc (.cells #[.int .i64 kk, .int .i64 cc, .int .i64 q, .bool false] 32)).alloc (.cells (madeCells #[.int .i64 0] q) 3)) = w2 at *
  have HS := (show Hid (w.heap.size < w.heap.size + 1) from Nat.lt_succ_self _)
  have hszlt : w.heap.size ≤ w.heap.size := Nat.le_refl _
  obtain ⟨hx, hhx⟩ : ∃ hx, w.heap.size = hx := ⟨_, rfl⟩
  obtain ⟨g, hg⟩ : ∃ g, hx + 1 = g := ⟨_, rfl⟩
  simp only [hhx, hg] at hb2 hR2 ⊢
  have HX := (show Hid (∀ wr, Keep [g] w2 wr → wr.cell? ⟨hx, 0, none⟩ = some (.int .i64 kk) ∧ wr.cell? ⟨hx, 2, none⟩ = some (.int .i64 (q : Int))) from fun wr K => by
    have h := hdB_cells (c := cc) (show wr.heap[hx]? = some (hdB kk cc q) from K.blk hb2 (by simp; omega))
    exact ⟨h.1.1, h.2.2.1.1⟩)
  have HK2 := hid hK2
  have HGW := (show Hid (w.heap.size ≤ g) from by show _ ≤ _; omega)
  clear hb2 hK2 hszlt HS
  go_loopw [10] (fun v wr => ∃ (k : Nat) (X : List Int), v = .int .i64 k ∧ k ≤ q ∧ Hid (WAt B m L kk i q k X) ∧ Hid (Row wr 3 g X) ∧ Hid (Keep [g] w2 wr)) (fun v _ => q - (intOf v).toNat)
  case atStart => exact ⟨0, _, rfl, by omega, WAt.start B m L kk i q, hR2, Keep.refl _ _⟩
  case round =>
    obtain ⟨k, X, rfl, hkq, HW, HR, HK⟩ := hrel
    clear hR2
    obtain ⟨x0, x2⟩ := HX.out wr HK.out
    by_cases hlt : k < q
    · have d1 : decide ((k : Int) < (q : Int)) = true := decide_eq_true (by omega)
      obtain ⟨p, hp⟩ : ∃ p, (i * 7 + k * 3 + 1) % m = p := ⟨_, rfl⟩
      have hpm : p < m := by rw [← hp]; exact Nat.mod_lt _ (by omega)
      have hpi : ((i : Int) * 7 + (k : Int) * 3 + 1) % (m : Int) = p := by rw [← hp]; rfl
      have hpt : ((i : Int) * 7 + (k : Int) * 3 + 1).tmod (m : Int) = p := by rw [Int.tmod_eq_emod_of_nonneg (by omega)]; exact hpi
      obtain ⟨nb, no', rfl, hnb, hcn⟩ := HU.out.cells (by omega)
      have hKw : Keep [] w wr := (HK2.out.mono (T := [g]) (by simp)).trans HK.out |>.drop (by intro x hx' hxw; simp at hx'; omega)
      have HKW := hid hKw
      have hc := (hKw.cell hnb (by simp) (no' + p)).trans (hcn p hpm)
      have hB := HU.out.lt p
      have HNUM := (show Hid (numG B m i k = B p + 13 * i + 5 * k) from by show _ = _; unfold numG; rw [hp])
      obtain ⟨b0, hb0⟩ : ∃ b0, B p = b0 := ⟨_, rfl⟩
      rw [hb0] at hc hB HNUM
      clear hcn hp hb0 hKw
      go_upto_region 6 with fail
      go_cut [12] from 52 to 52 (fun v wz => v = .bool (isG kk k) ∧ wz = wr)
      case first =>
        rcases (show kk = 1 ∨ kk = 2 ∨ kk = 3 ∨ kk = 4 by omega) with rfl | rfl | rfl | rfl
        · by_cases hk1 : k = 1
          · subst hk1
            go_wp2_with fail
            go_meet
            exact ⟨rfl, rfl⟩
          · have e1 : ((k : Int) != 1) = true := by simp; omega
            have e2 : (k != 1) = true := by simp [hk1]
            go_wp2_with fail
            go_meet
            exact ⟨by simp [isG, hk1], rfl⟩
        · go_wp2_with fail
          go_meet
          exact ⟨by simp [isG], rfl⟩
        · go_wp2_with fail
          go_meet
          exact ⟨by simp [isG], rfl⟩
        · rcases (show k = 0 ∨ k = 2 ∨ (k ≠ 0 ∧ k ≠ 2) by omega) with rfl | rfl | ⟨k0, k2⟩
          · go_wp2_with fail
            go_meet
            exact ⟨rfl, rfl⟩
          · go_wp2_with fail
            go_meet
            exact ⟨rfl, rfl⟩
          · have e1 : ((k : Int) == 0) = false := by rw [beq_eq_false_iff_ne]; omega
            have e2 : ((k : Int) == 2) = false := by rw [beq_eq_false_iff_ne]; omega
            go_wp2_with fail
            go_meet
            exact ⟨by simp [isG, k0, k2], rfl⟩
      case rest =>
        obtain ⟨rfl, rfl⟩ := hcut
        obtain ⟨nn, hnn⟩ : ∃ nn : Nat, (b0 : Int) + 13 * (i : Int) + 5 * (k : Int) = nn := ⟨b0 + 13 * i + 5 * k, by omega⟩
        have HNN := (show Hid (numG B m i k = nn) from by show _ = _; rw [HNUM.out]; omega)
        obtain ⟨r3, hr3⟩ : ∃ r3, nn % 3 = r3 := ⟨_, rfl⟩
        have h3a : (nn : Int) % 3 = r3 := by omega
        have h3b : (nn : Int).tmod 3 = r3 := by rw [Int.tmod_eq_emod_of_nonneg (by omega)]; exact h3a
        have hnb' : nn ≤ 20000 := by omega
        have hRk := HR.out.cell (i := k) (by rw [HW.out.len]; exact hlt)
        have hFk := HR.out.free k
        generalize X[k]?.getD 0 = old at hRk
        clear hpm hpi hpt hc hB HNUM
        have HW1 := (show Hid (wG1 B m L kk i k = if isG kk k = true then (if 0 < nn % 3 then L[nn % L.length]?.getD 0 else 0) else (nn : Int)) from by show _ = _; unfold wG1; rw [HNN.out])
        cases hG : isG kk k with
        | false =>
          have hv : wG1 B m L kk i k = (nn : Int) := by rw [HW1.out, hG]; rfl
          have HP := (show Hid (WAt B m L kk i q (k + 1) (X.set k (nn : Int)) ∧ Row (wc.setCell ⟨g, k, none⟩ (.int .i64 (nn : Int))) 3 g (X.set k (nn : Int)) ∧ Keep [g] w2 (wc.setCell ⟨g, k, none⟩ (.int .i64 (nn : Int)))) from ⟨HW.out.put hlt _ hv, HR.out.put k _, HK.out.trans (Keep.setCell _ _ (by simp))⟩)
          clear hv hr3 h3a h3b
          go_wp2_with fail
          go_roundw
          case rel => exact ⟨k + 1, _, by go_num, by omega, HP.out.1, HP.out.2.1, HP.out.2.2⟩
          case measure => simp [intOf]; omega
        | true =>
          by_cases h0 : 0 < r3
          · have d3 : decide (0 < (r3 : Int)) = true := decide_eq_true (by omega)
            obtain ⟨r, hr⟩ : ∃ r, nn % n = r := ⟨_, rfl⟩
            have hri : (nn : Int) % (n : Int) = r := by rw [← hr]; rfl
            have hrt : (nn : Int).tmod (n : Int) = r := by rw [Int.tmod_eq_emod_of_nonneg (by omega)]; exact hri
            have hrn : r < n := by rw [← hr]; exact Nat.mod_lt _ (by omega)
            obtain ⟨lb, lo, rfl, hlb, hcl⟩ := HA.out.cells (by have := HN.out; omega)
            have hcy := (HKW.out.cell hlb (by simp) (lo + r)).trans (hcl r (by have := HN.out; omega))
            have hv : wG1 B m L kk i k = L[r]?.getD 0 := by rw [HW1.out, hG, if_pos rfl, hr3, if_pos h0, HN.out, hr]
            clear hcl hr hr3
            generalize L[r]?.getD 0 = y at *
            have HP := (show Hid (WAt B m L kk i q (k + 1) (X.set k y) ∧ Row (wc.setCell ⟨g, k, none⟩ (.int .i64 y)) 3 g (X.set k y) ∧ Keep [g] w2 (wc.setCell ⟨g, k, none⟩ (.int .i64 y))) from ⟨HW.out.put hlt _ hv, HR.out.put k _, HK.out.trans (Keep.setCell _ _ (by simp))⟩)
            clear hv HW1
            go_wp2_with fail
            go_roundw
            case rel => exact ⟨k + 1, _, by go_num, by omega, HP.out.1, HP.out.2.1, HP.out.2.2⟩
            case measure => simp [intOf]; omega
          · obtain rfl : r3 = 0 := by omega
            have hv : wG1 B m L kk i k = 0 := by rw [HW1.out, hG, if_pos rfl, hr3, if_neg (by omega)]
            have HP := hid (HW.out.leave hv)
            clear hv HW1
            go_wp2_with fail
            go_roundw
            case rel => exact ⟨k + 1, _, by go_num, by omega, HP, HR, HK⟩
            case measure => simp [intOf]; omega
    · obtain rfl : k = q := by omega
      have d1 : decide ((k : Int) < (k : Int)) = false := decide_eq_false (by omega)
      have HKF := (show Hid (∀ wz, Keep [g] w2 wz → Keep [] w wz) from fun wz K => (HK2.out.mono (T := [g]) (by simp)).trans K |>.drop (by intro x hx' hxw; simp at hx'; omega))
      by_cases h4 : kk = 4
      · obtain rfl : k = 5 := H4.out h4
        subst h4
        obtain ⟨nb, no', rfl, hnb, hcn⟩ := HU.out.cells (by omega)
        have hlen := HW.out.len
        have hR0 := HR.out
        have hK0 := HK.out
        have HREF := hid HW.out.ref
        obtain ⟨v1, hv1⟩ : ∃ v1, ((B ((i * 5 + 2) % m) % 4 : Nat) : Int) - 1 = v1 := ⟨_, rfl⟩
        obtain ⟨p3, hp3⟩ : ∃ p3, i % m = p3 := ⟨_, rfl⟩
        have hp3m : p3 < m := by rw [← hp3]; exact Nat.mod_lt _ (by omega)
        have hp3i : (i : Int) % (m : Int) = p3 := by rw [← hp3]; rfl
        have hp3t : (i : Int).tmod (m : Int) = p3 := by rw [Int.tmod_eq_emod_of_nonneg (by omega)]; exact hp3i
        have hR1 := hR0.put 2 0
        have hK1 := hK0.trans (Keep.setCell (S := [g]) wr (a := ⟨g, 2, none⟩) (.int .i64 0) (by simp))
        have hR2' := hR1.put 1 v1
        have hK2' := hK1.trans (Keep.setCell (S := [g]) _ (a := ⟨g, 1, none⟩) (.int .i64 v1) (by simp))
        obtain ⟨b3, hb3⟩ : ∃ b3, B p3 = b3 := ⟨_, rfl⟩
        have hR3 := hR2'.put 3 (b3 : Int)
        have hK3 := hK2'.trans (Keep.setCell (S := [g]) _ (a := ⟨g, 3, none⟩) (.int .i64 (b3 : Int)) (by simp))
        have hR4 := hR3.put 4 ((i : Int) + 1)
        have hK4 := hK3.trans (Keep.setCell (S := [g]) _ (a := ⟨g, 4, none⟩) (.int .i64 ((i : Int) + 1)) (by simp))
        have hB3 := HU.out.lt p3
        rw [hb3] at hB3
        rw [hv1, hp3, hb3] at HREF
        rw [HREF.out] at hR4
        have e2 := hR0.cell (i := 2) (by rw [hlen]; omega)
        have f2 := hR0.free 2
        have e1 := hR1.cell (i := 1) (by rw [List.length_set, hlen]; omega)
        have f1 := hR1.free 1
        have e3 := hR2'.cell (i := 3) (by rw [List.length_set, List.length_set, hlen]; omega)
        have f3 := hR2'.free 3
        have e4 := hR3.cell (i := 4) (by rw [List.length_set, List.length_set, List.length_set, hlen]; omega)
        have f4 := hR3.free 4
        have hc3 := ((HKF.out _ hK2').cell hnb (by simp) (no' + p3)).trans (hcn p3 hp3m)
        rw [hb3] at hc3
        have HN3 := (show Hid (Calls Try.prog 66 #[.slice (some ⟨nb, no', none⟩) m nc, .int .i64 i] (wr.setCell ⟨g, 2, none⟩ (.int .i64 0)) fun e w' => e = .returned (.int .i64 v1) ∧ (wr.setCell ⟨g, 2, none⟩ (.int .i64 0)) = w') from by
          rw [← hv1]
          exact n3_17 _ m nc i B _ (HU.out.keep (HKF.out _ hK1) (by simp)) hm hi hm63)
        have HE := (show Hid (Row _ 3 g (wordsG B m L 4 5 i) ∧ Keep [] w _) from ⟨hR4, HKF.out _ hK4⟩)
        clear hR0 hK0 hR1 hK1 hR2' hK2' hR3 hK3 hR4 hK4 hcn hlen hp3 hb3
        generalize (X[2]?.getD 0) = o2 at *
        generalize ((X.set 2 0)[1]?.getD 0) = o1 at *
        generalize (((X.set 2 0).set 1 v1)[3]?.getD 0) = o3 at *
        generalize ((((X.set 2 0).set 1 v1).set 3 (b3 : Int))[4]?.getD 0) = o4 at *
        go_wp2_with (go_at_call 66; refine HN3.out.mono ?_; rintro e w' ⟨rfl, rfl⟩)
        go_ret
        exact ⟨g, rfl, HGW.out, HE.out.1, HE.out.2⟩
      · have h4b : (kk == 4) = false := by rw [beq_eq_false_iff_ne]; exact h4
        have HF := hid (HW.out.plain h4)
        go_wp2_with fail
        go_ret
        refine ⟨g, rfl, HGW.out, ?_, HKF.out _ HK.out⟩
        rw [← HF.out]; exact HR.out

end Go.Proofs.Ytgpidokklhjfdaa

/-
  Whole and awake of gloaminglaw9.
-/
namespace Go.Proofs.Ytgpidokklhjfdaa
open Go.RowKit

section
variable {w0 : World} {F0 : List Nat} {hb : Nat} {ws : List Int} {kd : List PK} {ds : List (Int × List Int)}
set_option maxRecDepth 100000 in
set_option maxHeartbeats 1600000 in
theorem owhole (w : World) (h : Has w0 F0 (heapA hb ws kd ds) w) :
    Calls Try.prog 8 #[.pointer (some ⟨hb, 0, none⟩)] w fun e w' => e = .returned (.bool true) ∧ w = w' := by
  obtain ⟨sb, tb, hr⟩ := h.raw
  obtain ⟨c0, c1, ⟨ab, ag, c2, _⟩, ⟨pb, c3⟩, _⟩ := hr.cells
  clear h hr
  go_enter Try.func8, Try.ntmps8
  go_wp2_with fail
  go_ret
  exact ⟨rfl, rfl⟩
end

theorem Fine.add {ws : List Int} {kd : List PK} {ds : List (Int × List Int)} (h : Fine ws kd ds) (f : Int) (L : List Int) : Fine ws kd (addR ds f L) := by
  unfold addR
  split
  · rename_i e
    simp at e
    exact ⟨h.wf, h.ob.add _, by simp; omega, h.len⟩
  · exact h

section
variable {w0 : World} {F0 : List Nat} {hb : Nat} {ws : List Int} {kd : List PK} {ds : List (Int × List Int)}
theorem Has.ptrs {w : World} (h : Has w0 F0 (heapA hb ws kd ds) w) : ∃ sb tb, w.cell? ⟨hb, 0, none⟩ = some (.pointer (some ⟨sb, 0, none⟩)) ∧ w.cell? ⟨hb, 1, none⟩ = some (.pointer (some ⟨tb, 0, none⟩)) := by
  obtain ⟨sb, tb, hr⟩ := h.raw
  exact ⟨sb, tb, hr.cells.1, hr.cells.2.1⟩
theorem ptr_eq {a b : Nat} (e : some (Value.pointer (some ⟨a, 0, none⟩)) = some (.pointer (some ⟨b, 0, none⟩))) : a = b := by
  injection e with e; injection e with e; injection e with e; injection e
theorem oof (tb : Nat) (f : Int) (ao : Option Addr) (n c : Nat) (L : List Int) (w : World) (h : Has w0 F0 (heapA hb ws kd ds) w) (ht : w.cell? ⟨hb, 1, none⟩ = some (.pointer (some ⟨tb, 0, none⟩))) (hA : IntsAt w ao L) (hc : ao = none → c = 0) (hn : L.length = n) (hbd : n ≤ 1000000) :
    Calls Try.prog 44 #[.pointer (some ⟨tb, 0, none⟩), .int .i64 f, .slice ao n c] w fun e w' => e = .returned (.tuple #[.int .i64 (addN ds f L), .int .i64 (addE ds f L)]) ∧ Has w0 F0 (heapA hb ws kd (addR ds f L)) w' := by
  obtain ⟨sb, tb', hr⟩ := h.raw
  have e := hr.cells.2.1
  rw [ht] at e
  obtain rfl := ptr_eq e
  refine (xof w f ao n c L hr hA hc hn hbd).mono ?_
  rintro e w' ⟨rfl, hX⟩
  exact ⟨rfl, hX.heap (h.fine.add f L)⟩
theorem ofind (sb : Nat) (a : Int) (w : World) (h : Has w0 F0 (heapA hb ws kd ds) w) (ht : w.cell? ⟨hb, 0, none⟩ = some (.pointer (some ⟨sb, 0, none⟩))) :
    Calls Try.prog 82 #[.pointer (some ⟨sb, 0, none⟩), .int .i64 a] w fun e w' => e = .returned (foundV (findI kd a)) ∧ Keep [] w w' := by
  obtain ⟨sb', tb, hr⟩ := h.raw
  have e := hr.cells.1
  rw [ht] at e
  obtain rfl := ptr_eq e
  exact xfind w a hr h.fine.wf
end

theorem awake_each : (eachK ((freshK 2).set 1 (.small 0 ((offs (roomOf 0)).set 0 true)))).length = 1 := by decide +kernel
theorem block2 : blockI 2 = (2 : Nat) := by decide
end Go.Proofs.Ytgpidokklhjfdaa

/-
  Graph of gloaminglaw17: the program's heap of a graph by numbers.
-/
namespace Go.Proofs.Ytgpidokklhjfdaa
open Go.RowKit

/-- A row of values of several cells each, of one's own, that nothing turns. -/
def wideA (t : TypeId) (m : Nat) (va : Option Addr) (n vc : Nat) (xs : List Value) : Asn where
  at' w F := F = va.toList.map (·.block) ∧ w.ownsRow 0 t m (.slice va n vc) n xs ∧ ∀ a, va = some a → a.block < w.heap.size
  keep := fun h K hS => ⟨h.1, own_keepS h.2.1 K (fun y e => hS _ (by rw [h.1, e]; simp)), fun a e => Nat.lt_of_lt_of_le (h.2.2 a e) K.size⟩
  lt := fun h k hk => by
    rw [h.1] at hk
    simp at hk
    obtain ⟨a, e, rfl⟩ := hk
    exact h.2.2 a e
theorem Has.wideNew {w0 w w1 : World} {F0 : List Nat} {A : Asn} {t : TypeId} {m n vc : Nat} {va : Option Addr} {xs : List Value} (h : Has w0 F0 A w) (K : Keep [] w w1) (ho : w1.ownsRow w.heap.size t m (.slice va n vc) n xs) : Has w0 F0 (A.star (wideA t m va n vc xs)) w1 := by
  have hf := own_far ho
  refine h.more K (G := va.toList.map (·.block)) ⟨rfl, own_base ho (Nat.zero_le _), fun a e => (hf a e).2⟩ (fun k hk => ?_)
  simp at hk
  obtain ⟨a, e, rfl⟩ := hk
  exact (hf a e).1
theorem addR_G : addR [] 3 [0, 2] = dsG := by decide
theorem in02 : inR [0, 2] := by
  intro i
  rcases i with _ | _ | i <;> simp
theorem ints_blkG {w : World} {b : Nat} {t : TypeId} {L : List Int} (h : w.heap[b]? = some (.cells (ints L).toArray t (0, 0))) (hL : inR L) : IntsAt w (some ⟨b, 0, none⟩) L := by
  refine ⟨fun _ => ⟨b, 0, rfl, lt_of_block h, fun i hi => ?_⟩, fun i => (hL i).1, fun i => (hL i).2⟩
  have h' : Row w t b L := h
  rw [Nat.zero_add]
  exact h'.cell hi
/-- A head of the list. -/
theorem heads_at {w0 w : World} {F0 : List Nat} {n vc j : Nat} {va : Option Addr} {B : Nat → Nat} (h : Has w0 F0 (wideA 32 4 va n vc (hsG B n).flatten) w) (hj : j < n) :
    ∃ b, va = some ⟨b, 0, none⟩ ∧ w.cell? ⟨b, j * 4, none⟩ = some (.int .i64 (kG B j)) ∧ w.cell? ⟨b, j * 4 + 1, none⟩ = some (.int .i64 (cG B j)) ∧ w.cell? ⟨b, j * 4 + 2, none⟩ = some (.int .i64 (lG B j)) ∧ w.cell? ⟨b, j * 4 + 3, none⟩ = some (.bool false) := by
  have ho := h.fact (fun _ h => h.2.1)
  obtain ⟨b, h1, _, _, h4⟩ := wide_cells ho (hsG_each B n) (hsG_length B n) (by omega)
  refine ⟨b, h1, ?_, ?_, ?_, ?_⟩
  · have := h4 j _ 0 (hsG_get B n j hj) (by omega); simpa [hG] using this
  · have := h4 j _ 1 (hsG_get B n j hj) (by omega); simpa [hG] using this
  · have := h4 j _ 2 (hsG_get B n j hj) (by omega); simpa [hG] using this
  · have := h4 j _ 3 (hsG_get B n j hj) (by omega); simpa [hG] using this

set_option maxRecDepth 100000 in
set_option maxHeartbeats 12800000 in
theorem graph_any (no : Option Addr) (m nc n : Nat) (B : Nat → Nat) (W : Nat → List Int) (K : Nat → List PK) (A : Nat → Nat) (w : World) (hn : min m 24 = n) (hG : GraphT B m n W K A) (hU : U8At w no m B) (hm63 : m ≤ 9223372036854775807) :
    Calls Try.prog 18 #[.slice no m nc] w fun e w' => ∃ (hb : Nat) (la : Option Addr) (lc : Nat), e = .returned (.tuple #[.pointer (some ⟨hb, 0, none⟩), .slice la n lc]) ∧ Has w [] ((heapA hb (gW B m n W A n) (K n) dsG).star (midA 3 (.slice la n lc) (aL A n))) w' := by
  obtain ⟨i0, hi, hz0, hz1, hz2⟩ := info_parts Try.infoIntC
  have hI : Hid (Try.prog.info? 3 = some i0 ∧ i0.zero = some (.int .i64 0) ∧ i0.size = 1 ∧ i0.bytes = 8) := ⟨hi, hz0, hz1, hz2⟩
  have HG := hid hG
  have HU := hid hU
  have HN := hid hn
  have hn24 := hG.few
  clear hG hU hi hz0 hz1 hz2 hn
  go_enter Try.func18, Try.ntmps18
  go_wp2_with fail
  refine (onew_has 60 _ (by omega) (by omega)).mono ?_
  rintro e w1 ⟨hb, rfl, hH⟩
  have HH := hid hH
  obtain ⟨sb, tb, _, ct⟩ := hH.ptrs
  have hbl : hb < w1.heap.size := lt_of_cell2' ct
  have HX1 := hid (hH.newB (.cells (ints [0, 2]).toArray 3 (0, 0)))
  clear hH
  go_wp2_with (first | (go_at_call 8; refine (owhole _ HH.out).mono ?_; rintro e w' ⟨rfl, rfl⟩) | (go_at_call 9; refine (err_any _ _).mono ?_; rintro e w' ⟨rfl, rfl⟩))
  refine (has_left HX1.out (fun F hF => oof tb 3 (some ⟨w1.heap.size, 0, none⟩) 2 2 [0, 2] _ hF ((Keep.alloc [] w1 _ |>.cell hbl (by simp) 1).trans ct) (ints_blkG (HX1.out.snd.fact (fun _ h => h.2)) in02) (by simp) rfl (by omega))).mono ?_
  rintro e w2 ⟨rfl, hX2⟩
  have HX2 := (show Hid (Has w [] (heapA hb (W 0) (K 0) dsG) w2) from by
    have h := hX2.fst
    rw [addR_G] at h
    rw [HG.out.ch.w0, HG.out.ch.k0]
    exact h)
  clear hX2 HX1 HH ct hbl
  go_wp2_with fail
  refine (heads17 no m nc B w2 (HU.out.keep HX2.out.K (by simp)) hm63).mono ?_
  rw [HN.out]
  rintro e w3 ⟨ha, hc, rfl, hown3, hK3⟩
  have HX3 := (show Hid (Has w [] (((heapA hb (W 0) (K 0) dsG).star (wideA 32 4 ha n hc (hsG B n).flatten)).star (midA 3 (.slice none 0 0) (aL A 0))) w3) from (HX2.out.wideNew hK3 hown3).more (Keep.refl [] _) (G := []) ⟨rfl, IsMid.nil _ _⟩ (fun k hk => by cases hk))
  clear hown3 hK3 HX2
  go_wp2_with fail
  go_loopw [7, 8] (fun v7 v8 wr => ∃ (j lc : Nat) (la : Option Addr), v7 = .slice la j lc ∧ v8 = .int .i64 j ∧ j ≤ n ∧ Hid (Has w [] (((heapA hb (W j) (K j) dsG).star (wideA 32 4 ha n hc (hsG B n).flatten)).star (midA 3 (.slice la j lc) (aL A j))) wr)) (fun _ v8 _ => n - (intOf v8).toNat)
  case atStart => exact ⟨0, 0, none, rfl, rfl, by omega, HX3.out⟩
  case round =>
    obtain ⟨j, lc, la, rfl, rfl, hj, HX⟩ := hrel
    clear HX3
    by_cases hlt : j < n
    · have hd : decide ((j : Int) < (n : Int)) = true := decide_eq_true (by omega)
      obtain ⟨hbk, rfl, c0, c1, c2, c3⟩ := heads_at HX.out.fst.snd hlt
      have HT := hid (HG.out.ch.step j hlt)
      have hab := (HG.out.ch.ot (j + 1) (by omega)).bd j (by omega)
      have HL := (show Hid (aL A (j + 1) = aL A j ++ [(A j : Int)]) from aL_snoc A j)
      generalize A j = a at *
      go_wp2_with fail
      refine (has_left HX.out (fun F hF => has_left hF (fun F hF => omake (kG B j) (cG B j) (lG B j) a 0 false _ _ _ hF HT.out))).mono ?_
      rintro e w4 ⟨rfl, hX4⟩
      have HX4 := hid hX4
      have HX5 := hid (hX4.keep0 (Keep.alloc [] w4 (.cells #[.int .i64 (a : Int)] 3)))
      clear hX4 HX c0 c1 c2 c3
      go_wp2_with (first
        | (go_at_call 9; refine (err_any _ _).mono ?_; rintro e w' ⟨rfl, rfl⟩)
        | (at_builtin; refine wpList_append_mid _ rfl (.tmp 52) (.tmp 54) 28 rfl 3 i0 Try.underlying28 hI.out (.slice la j lc) (aL A j) rfl (HX5.out.snd.fact (fun _ h => h.2)) w4.heap.size a 1 rfl (cell_of_one (heap_alloc_new _ _)) (by rw [aL_length]; omega) ?_; intro v7 w7 hm7 hK7 hg7; have HX7 := hid (HX5.out.midTurn hK7 hm7 hg7); obtain ⟨l7, c7, hv7⟩ := hm7.form; rw [← HL.out] at HX7; rw [← HL.out, aL_length] at hv7; subst hv7; clear hm7 hK7 hg7))
      go_roundw
      case rel => exact ⟨j + 1, c7, l7, rfl, by go_num, by omega, HX7⟩
      case measure => simp [intOf]; omega
    · have hjn : j = n := by omega
      have hd : decide ((j : Int) < (n : Int)) = false := decide_eq_false (by omega)
      have HX4 := (show Hid (Has w [] (((heapA hb (gW B m n W A 0) (K n) dsG).star (wideA 32 4 ha n hc (hsG B n).flatten)).star (midA 3 (.slice la n lc) (aL A n))) wr) from by
        have h := HX.out
        rw [hjn] at h
        exact h)
      rw [hjn]
      clear HX hjn hd hj hlt
      have hd : decide ((n : Int) < (n : Int)) = false := decide_eq_false (by omega)
      go_wp2_with fail
      clear hd
      go_loopw [11] (fun v wq => ∃ i : Nat, v = .int .i64 i ∧ i ≤ n ∧ Hid (Has w [] (((heapA hb (gW B m n W A i) (K n) dsG).star (wideA 32 4 ha n hc (hsG B n).flatten)).star (midA 3 (.slice la n lc) (aL A n))) wq)) (fun v _ => n - (intOf v).toNat)
      case atStart => exact ⟨0, rfl, by omega, HX4.out⟩
      case round =>
        obtain ⟨i, rfl, hi, HX⟩ := hrel
        clear HX4
        by_cases hlt : i < n
        · have hd : decide ((i : Int) < (n : Int)) = true := decide_eq_true (by omega)
          obtain ⟨hbk, rfl, c0, c1, c2, c3⟩ := heads_at HX.out.fst.snd hlt
          obtain ⟨q, hq⟩ : ∃ q : Nat, lG B i = q := ⟨(lG B i).toNat, by have := lG_bd B i; omega⟩
          have hq5 : 1 ≤ q ∧ q ≤ 5 := by have := lG_bd B i; omega
          have hk4 : 1 ≤ kG B i ∧ kG B i ≤ 4 := by unfold kG; omega
          have h4 : kG B i = 4 → q = 5 := fun e => by
            have e3 : B i % 4 = 3 := by unfold kG at e; omega
            have : lG B i = 5 := by unfold lG; rw [e3]; rfl
            omega
          have HZ := (show Hid (wordsG B m (aL A n) (kG B i) q i = gZ B m n A i ∧ (gZ B m n A i).length = q) from ⟨by unfold gZ; rw [hq], by unfold gZ; rw [wordsG_length, hq]; simp⟩)
          have hm1 : 1 ≤ m := by have := HN.out; omega
          have hWD := words17 (kG B i) (cG B i) q la n lc (aL A n) no m nc i B wr hk4 hq5 h4 ((HX.out.snd.fact (fun _ h => h.2) : IsMid wr 3 (.slice la n lc) (aL A n)).ints (fun t => HG.out.bd t)).1 (aL_length A n) (by omega) (by omega) (HU.out.keep HX.out.K (by simp)) hm1 (by omega) hm63
          rw [HZ.out.1] at hWD
          have HWD := hid hWD
          rw [hq] at c2
          clear hWD hk4 h4 hm1
          generalize kG B i = kk at c0 HWD
          generalize cG B i = cc at c1 HWD
          go_wp2_with fail
          refine HWD.out.mono ?_
          rintro e w5 ⟨z, rfl, hz, hR, hK5⟩
          obtain ⟨Z, hZe⟩ : ∃ Z, gZ B m n A i = Z := ⟨_, rfl⟩
          have HZl := (show Hid (Z.length = q) from by show _ = _; rw [← hZe]; exact HZ.out.2)
          have hzs := HG.out.zs i hlt
          rw [hZe] at hzs hR
          have HZI := (show Hid (∀ t : Nat, inI (Z[t]?.getD 0)) from hzs.2)
          have HP := (show Hid (∀ k, k < q → PutT (K n) (putsK (gW B m n W A i) (A i + 1) Z k) (A i) k (Z[k]?.getD 0) 0 (putsK (gW B m n W A i) (A i + 1) Z (k + 1))) from fun k hk => (HG.out.ot i (by omega)).putsT i hlt Z hzs.2 k (by omega))
          have HGN := (show Hid (gW B m n W A (i + 1) = putsK (gW B m n W A i) (A i + 1) Z q) from by
            show putsK (gW B m n W A i) (A i + 1) (gZ B m n A i) (gZ B m n A i).length = _
            rw [hZe, HZl.out])
          have HX5 := (show Hid (Has w [] ((((heapA hb (putsK (gW B m n W A i) (A i + 1) Z 0) (K n) dsG).star (wideA 32 4 (some ⟨hbk, 0, none⟩) n hc (hsG B n).flatten)).star (midA 3 (.slice la n lc) (aL A n))).star (blockA z (.cells (ints Z).toArray 3 (0, 0)))) w5) from HX.out.more hK5 (B := blockA z (.cells (ints Z).toArray 3 (0, 0))) (G := [z]) ⟨rfl, hR⟩ (fun k hk => by simp at hk; omega))
          have hbd := (HG.out.ot i (by omega)).bd i hlt
          have HAI := (show Hid ((aL A n)[i]?.getD 0 = (A i : Int)) from aL_get A n i hlt)
          generalize gW B m n W A i = X0 at *
          clear hR hz hK5 HX hzs hZe HZ HWD c0 c1 c2 c3 hq
          go_wp2_with fail
          go_loopw [13] (fun v wq => ∃ k : Nat, v = .int .i64 k ∧ k ≤ q ∧ Hid (Has w [] ((((heapA hb (putsK X0 (A i + 1) Z k) (K n) dsG).star (wideA 32 4 (some ⟨hbk, 0, none⟩) n hc (hsG B n).flatten)).star (midA 3 (.slice la n lc) (aL A n))).star (blockA z (.cells (ints Z).toArray 3 (0, 0)))) wq)) (fun v _ => q - (intOf v).toNat)
          case atStart => exact ⟨0, rfl, by omega, HX5.out⟩
          case round =>
            obtain ⟨k, rfl, hk, HX6⟩ := hrel
            clear HX5
            by_cases hkl : k < q
            · have hd2 : decide ((k : Int) < (q : Int)) = true := decide_eq_true (by omega)
              have hm6 : IsMid _ 3 (.slice la n lc) (aL A n) := HX6.out.fst.snd.fact (fun _ h => h.2)
              obtain ⟨g, o, rfl⟩ := hm6.some (by omega)
              have y1 := (mid_cells hm6 hlt).1
              rw [HAI.out] at y1
              have hrow : Row _ 3 z Z := HX6.out.snd.fact (fun _ h => h.2)
              have y2 := hrow.cell (i := k) (by rw [HZl.out]; exact hkl)
              have HPk := hid (HP.out k hkl)
              have HIk := hid (HZI.out k)
              generalize Z[k]?.getD 0 = y at *
              clear hm6 hrow
              go_upto_region 21 with fail
              go_region_law (first | (go_simp; refine (has_left (HX6.out.keep0 (Keep.drew [] _)) (fun F hF => has_left hF (fun F hF => has_left hF (fun F hF => oput (A i) k y 0 _ _ hF HPk.out HIk.out)))).mono ?_; rintro e w7 ⟨rfl, hX7⟩; have HX7 := hid hX7; clear hX7) | (go_simp; refine (err_any _ _).mono ?_; rintro e w' ⟨rfl, rfl⟩))
              all_goals go_wp2_with fail
              all_goals
                go_roundw
                case rel => exact ⟨k + 1, by go_num, by omega, HX7⟩
                case measure => simp [intOf]; omega
            · obtain rfl : k = q := by omega
              have hd2 : decide ((k : Int) < (k : Int)) = false := decide_eq_false (by omega)
              have HX7 := (show Hid (Has w [] (((heapA hb (gW B m n W A (i + 1)) (K n) dsG).star (wideA 32 4 (some ⟨hbk, 0, none⟩) n hc (hsG B n).flatten)).star (midA 3 (.slice la n lc) (aL A n))) _) from by
                have h := HX6.out.fst
                rw [← HGN.out] at h
                exact h)
              clear HX6
              go_wp2_with fail
              go_roundw
              case rel => exact ⟨i + 1, by go_num, by omega, HX7⟩
              case measure => simp [intOf]; omega
        · obtain rfl : i = n := by omega
          have hd : decide ((i : Int) < (i : Int)) = false := decide_eq_false (by omega)
          go_wp2_with fail
          go_ret2
          exact ⟨hb, la, lc, rfl, HX.out.swap.fst⟩

end Go.Proofs.Ytgpidokklhjfdaa

/-
  Awake of gloaminglaw17.
-/
namespace Go.Proofs.Ytgpidokklhjfdaa
open Go.RowKit

theorem oeach {w0 w : World} {F0 : List Nat} {hb sb : Nat} {ws : List Int} {kd : List PK} {ds : List (Int × List Int)} (h : Has w0 F0 (heapA hb ws kd ds) w) (ht : w.cell? ⟨hb, 0, none⟩ = some (.pointer (some ⟨sb, 0, none⟩))) :
    Calls Try.prog 43 #[.pointer (some ⟨sb, 0, none⟩)] w fun e w' => ∃ la lc, e = .returned (.slice la (eachK kd).length lc) ∧ IntsAt w' la (eachK kd) ∧ (∀ a, la = some a → w.heap.size ≤ a.block) ∧ Keep [] w w' := by
  obtain ⟨sb', tb, hr⟩ := h.raw
  have e := hr.cells.1
  rw [ht] at e
  obtain rfl := ptr_eq e
  exact xeach _ hr h.fine.wf
theorem OT.each {kd : List PK} {ws : List Int} {ds : List (Int × List Int)} {n : Nat} {A : Nat → Nat} {kk cc ll : Nat → Int} (h : OT kd ws ds n A kk cc ll) (hn : 0 < n) : 0 < (eachK kd).length ∧ isAt kd ((eachK kd)[0]?.getD 0) = true ∧ inI ((eachK kd)[0]?.getD 0) := by
  obtain ⟨m, hm⟩ := h.objs 0 hn
  have hin := h.fine.wf.each_of hm.2.1
  have h0 : 0 < (eachK kd).length := List.length_pos_of_mem hin
  have hm0 : (eachK kd)[0]?.getD 0 ∈ eachK kd := by rw [List.getElem?_eq_getElem h0]; exact List.getElem_mem h0
  obtain ⟨a, q, e, hf⟩ := (h.fine.wf.each_iff _).1 hm0
  refine ⟨h0, ?_, ?_⟩
  · rw [e]; unfold isAt; rw [find_nat, hf]; simp
  · have := h.fine.wf.found hf
    have := h.fine.wf.len2
    rw [e]; unfold inI; omega
theorem Has.four {w0 w : World} {F0 : List Nat} {A B C D : Asn} (h : Has w0 F0 ((((A.star B).star C).star D)) w) : Has w0 F0 A w := h.fst.fst.fst
def b123 : Nat → Nat := fun i => if i = 0 then 1 else if i = 1 then 2 else if i = 2 then 3 else 0
theorem u8_123 (w : World) : U8At (w.alloc (.cells #[.int .u8 1, .int .u8 2, .int .u8 3] 5)) (some ⟨w.heap.size, 0, none⟩) 3 b123 := by
  refine ⟨fun _ => ⟨w.heap.size, 0, rfl, by simp, fun i hi => ?_⟩, fun i => by unfold b123; repeat' split
                                                                               all_goals omega⟩
  have h := heap_alloc_new w (.cells #[.int .u8 1, .int .u8 2, .int .u8 3] 5)
  rw [Nat.zero_add, cell_of_row _ _ i _ _ _ h]
  rcases (show i = 0 ∨ i = 1 ∨ i = 2 by omega) with rfl | rfl | rfl <;> rfl

set_option maxRecDepth 100000 in
set_option maxHeartbeats 6400000 in
theorem awake17_any (w : World) :
    Calls Try.prog 17 #[] w fun e w' => e = .returned (.bool true) ∧ Keep [] w w' := by
  obtain ⟨W, K, A, hG⟩ := graph_ex b123 3 3 (u8_123 w).lt (by omega)
  have hO := hG.ot 3 (Nat.le_refl _)
  obtain ⟨he0, heat, hein⟩ := hO.each (by omega)
  have hGR := graph_any (some ⟨w.heap.size, 0, none⟩) 3 3 3 b123 W K A _ rfl hG (u8_123 w) (by omega)
  have HGR := hid hGR
  have hOk : MOk (K 3) (gW b123 3 3 W A 3) dsG (offs (gW b123 3 3 W A 3).length) := MOk.offs
  obtain ⟨ys, hT⟩ := markT_ex hO.fine (offs (gW b123 3 3 W A 3).length) (offs_length _) [(eachK (K 3))[0]?.getD 0]
  have hon : onM ys ((eachK (K 3))[0]?.getD 0) = true := (hT.iff _).2 (.inr (.root (by simp) heat))
  have HO := hid hOk
  have HT := hid hT
  have HON := hid hon
  have HEI := hid hein
  clear hG hO hGR hOk hT hon heat hein
  generalize gW b123 3 3 W A 3 = ws at *
  generalize K 3 = kd at *
  go_enter Try.func17, Try.ntmps17
  go_wp2_with fail
  refine HGR.out.mono ?_
  rintro e w1 ⟨hb, la, lc, rfl, hX⟩
  have HX := hid hX
  clear hX HGR
  go_wp2_with fail
  refine (has_left_ex HX.out (fun F hF => tnew_yes 1 _ hF (by omega) (by omega))).mono ?_
  rintro e w2 ⟨tb, rfl, hX2⟩
  have HX2 := hid hX2
  obtain ⟨bb, _, ct, _⟩ := hX2.fst.snd.trb
  clear hX2 HX
  go_wp2_with (first | (go_at_call 9; refine (err_any _ _).mono ?_; rintro e w' ⟨rfl, rfl⟩))
  refine (tmark none 0 0 [] _ HX2.out (fun _ _ _ => IntsAt.nil _ _) rfl (by omega) HO.out (MarkT.nil _)).mono ?_
  rintro e w3 ⟨rfl, hX3⟩
  have HX3 := hid hX3
  clear hX3 HX2 ct
  go_wp2_with fail
  refine (tall _ HX3.out.fst.snd).mono ?_
  rintro e w4 ⟨v4, m4, rfl, hown4, hK4⟩
  rw [marksL_offs] at hown4
  obtain rfl : m4 = 0 := by have := hown4.1; simpa [ints] using this.symm
  obtain ⟨va4, vc4, rfl⟩ := own_shape hown4
  have HX4 := hid (HX3.out.keep0 hK4)
  obtain ⟨sb, _, cs, _⟩ := HX4.out.fst.fst.ptrs
  clear hown4 hK4 HX3
  go_wp2_with fail
  refine (oeach HX4.out.fst.fst cs).mono ?_
  rintro e w5 ⟨ea, ec, rfl, hE, hfar, hK5⟩
  have HX5 := hid ((HX4.out.more hK5 (B := listA ea (eachK kd)) (G := ea.toList.map (·.block)) ⟨rfl, hE, fun a e => by
    obtain ⟨b, off, e2, hb, _⟩ := hE.cells he0
    rw [e] at e2
    injection e2 with e2
    rw [e2]; exact hb⟩ (fun k hk => by
    simp at hk
    obtain ⟨a, e, rfl⟩ := hk
    exact hfar a e)))
  have HE0 := hid he0
  obtain ⟨ln, hln⟩ : ∃ ln, (eachK kd).length = ln := ⟨_, rfl⟩
  rw [hln] at he0 ⊢
  obtain ⟨b, off, rfl, _, hcs⟩ := hE.cells (by omega)
  have hc0 := hcs 0 (by omega)
  rw [Nat.add_zero] at hc0
  obtain ⟨x, hx⟩ : ∃ x, (eachK kd)[0]?.getD 0 = x := ⟨_, rfl⟩
  rw [hx] at hc0 HT HON HEI
  have hd0 : ((ln : Int) == 0) = false := by rw [beq_eq_false_iff_ne]; omega
  have HX6 := hid (HX5.out.newB (.cells #[.int .i64 x] 3 (0, 0)))
  have HKK := (show Hid (∀ wz, Keep [] w5 wz → wz.cell? ⟨b, off, none⟩ = some (.int .i64 x)) from fun wz K => (K.cell (lt_of_cell2' hc0) (by simp) off).trans hc0)
  clear hcs hE hfar hK5 HX4 cs hln
  go_wp2_with fail
  refine (tmark (some ⟨w5.heap.size, 0, none⟩) 1 1 [x] _ HX6.out.assoc.assoc (fun zs w' h => h.snd.snd.snd.fact (fun _ h => ints_blkG h.2 (fun i => by rcases i with _ | i
                                                                                                                                                       · exact HEI.out
                                                                                                                                                       · simp))) rfl (by omega) HO.out HT.out).mono ?_
  rintro e w7 ⟨rfl, hX7⟩
  have HX7 := hid hX7
  have hc7 : w7.cell? ⟨b, off, none⟩ = some (.int .i64 x) := by
    obtain ⟨b', off', e, _, hcs⟩ := hX7.snd.snd.fst.list.cells HE0.out
    cases e
    have := hcs 0 HE0.out
    rwa [Nat.add_zero, hx] at this
  clear hX7 HX6 HKK hx hc0
  go_wp2_with (go_at_call 14; refine (tmarked x _ HX7.out.fst.snd).mono ?_; rw [HON.out]; rintro e w8 ⟨rfl, hK8⟩)
  go_ret
  exact ⟨rfl, ((Keep.alloc [] w _).trans HX7.out.K).trans hK8⟩

end Go.Proofs.Ytgpidokklhjfdaa
