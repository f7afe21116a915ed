/-
  References: what each call answers and leaves, whatever is asked. Plain facts.
-/
import Derived.Test.YtgpidokklhjfdaaGreatQueueM
namespace Go.Proofs.YtgpidokklhjfdaaGreat
open Go.RowKit

/-- A word within a block, behind its head. -/
def Inner (kd : List PK) (p : Nat) : Prop := ∃ a m, findN kd a = some (a, m) ∧ a < p ∧ p < a + m
section
variable {kd : List PK} {ws : List Int} {ds : List (Int × List Int)} {p : Nat} {x : Int}
theorem Inner.ne (h : Inner kd p) (hw : WF kd) {q m : Nat} (hq : findN kd q = some (q, m)) : p ≠ q := by
  obtain ⟨a, n, h1, h2, h3⟩ := h
  rintro rfl
  obtain ⟨g1, g2, _⟩ := hw.found hq
  have := hw.apart h1 hq (x := p) (by omega) h3 g1 g2
  omega
theorem Inner.at' (h : Inner kd p) (hw : WF kd) {y k c l : Int} {q m : Nat} {f : Bool} : At kd (ws.set p x) y q m k c l f ↔ At kd ws y q m k c l f := by
  constructor
  · rintro ⟨e1, e2, e3⟩
    rw [set_get_other _ _ _ _ (h.ne hw e2)] at e3
    exact ⟨e1, e2, e3⟩
  · rintro ⟨e1, e2, e3⟩
    refine ⟨e1, e2, ?_⟩
    rw [set_get_other _ _ _ _ (h.ne hw e2)]
    exact e3
theorem Inner.head (h : Inner kd p) (hw : WF kd) {a k c l E : Int} {f : Bool} (hT : HeadT kd ws a k c l f E) : HeadT kd (ws.set p x) a k c l f E := by
  cases hT with
  | no hn => exact .no hn
  | yes b m k c l f hA => exact .yes b m k c l f ((h.at' hw).2 hA)
theorem Inner.fine (h : Inner kd p) (hf : Fine ws kd ds) (hx : inI x) : Fine (ws.set p x) kd ds := by
  obtain ⟨a, m, h1, h2, h3⟩ := h
  exact ⟨hf.wf, hf.ob.field hf.wf h1 h2 h3 x hx, hf.few, by rw [List.length_set]; exact hf.len⟩
theorem Inner.lt (h : Inner kd p) (hf : Fine ws kd ds) : p < ws.length := by
  obtain ⟨a, m, h1, h2, h3⟩ := h
  have := hf.wf.found h1
  have := hf.len
  omega
end

/-- A reference of class c lies at b. -/
def RefC (kd : List PK) (ws : List Int) (b : Nat) (c : Int) : Prop := ∃ m, At kd ws (b : Nat) b m 4 c 5 false
section
variable {kd : List PK} {ws : List Int} {ds : List (Int × List Int)} {p b b' : Nat} {x c c' : Int}
theorem RefC.refA (h : RefC kd ws b c) : RefA kd ws b := by obtain ⟨m, h⟩ := h; exact ⟨m, c, h⟩
theorem RefA.refC (h : RefA kd ws b) : ∃ c, RefC kd ws b c := by obtain ⟨m, c, h⟩ := h; exact ⟨c, m, h⟩
theorem RefC.headT (h : RefC kd ws b c) : HeadT kd ws b 4 c 5 false 0 := by obtain ⟨m, h⟩ := h; exact .yes b m 4 c 5 false h
theorem RefC.cls (h : RefC kd ws b c) : 1 ≤ c ∧ c ≤ 3 := by
  obtain ⟨m, h⟩ := h
  have h3 := h.2.2.1
  rw [mayH_4] at h3
  simp [inB] at h3
  exact h3
theorem refC_of_at {k l : Int} {m : Nat} {f : Bool} (h : At kd ws x b m k c l f) (hk : k = 4) : x = (b : Int) ∧ RefC kd ws b c ∧ l = 5 ∧ f = false := by
  subst hk
  obtain ⟨e, h1, h2⟩ := h
  have h3 := h2.1
  rw [mayH_4] at h3
  simp [inB] at h3
  obtain ⟨hf, _, hl⟩ := h3
  have hl5 : l = 5 := by omega
  subst hl5
  subst hf
  exact ⟨e, ⟨m, rfl, h1, h2⟩, rfl, rfl⟩
theorem RefC.room (h : RefC kd ws b c) (hf : Fine ws kd ds) : ∃ m, findN kd b = some (b, m) ∧ 6 ≤ m ∧ 64 ≤ b ∧ b + m ≤ ws.length ∧ ws.length ≤ 16384 := by
  obtain ⟨m, h⟩ := h
  have h1 := at_room hf h
  have h2 := h.facts hf.wf
  have h3 := hf.len
  exact ⟨m, h.2.1, by omega, h2.2.1, by omega, by omega⟩
theorem RefC.inner (h : RefC kd ws b c) (hf : Fine ws kd ds) (i : Nat) (hi : i < 5) : Inner kd (b + 1 + i) := by
  obtain ⟨m, h1, h2, _⟩ := h.room hf
  exact ⟨b, m, h1, by omega, by omega⟩
theorem RefC.inI (h : RefC kd ws b c) (hf : Fine ws kd ds) : inI (b : Int) := h.refA.inI hf
theorem RefC.place (h : RefC kd ws b c) (hf : Fine ws kd ds) (i : Nat) (hi : i < 5) : PlaceT kd ws b i (b + 1 + i) 0 := by
  obtain ⟨m, h⟩ := h
  have h1 := at_room hf h
  exact .yes b m i 4 c 5 false h rfl (by omega) h1
theorem RefC.put (h : RefC kd ws b c) (hf : Fine ws kd ds) (i : Nat) (hi : i < 5) (x : Int) : PutT kd ws b i x 0 (ws.set (b + 1 + i) x) := .yes (b + 1 + i) (h.place hf i hi) ((h.inner hf i hi).lt hf)
theorem RefC.field (h : RefC kd ws b c) (hf : Fine ws kd ds) (i : Nat) (hi : i < 5) : FieldT kd ws b i (ws[b + 1 + i]?.getD 0) 0 := .yes (b + 1 + i) (h.place hf i hi) ((h.inner hf i hi).lt hf)
theorem RefC.set (h : RefC kd ws b c) (hw : WF kd) (hp : Inner kd p) (x : Int) : RefC kd (ws.set p x) b c := by
  obtain ⟨m, h⟩ := h
  exact ⟨m, (hp.at' hw).2 h⟩
theorem RefC.unset (h : RefC kd (ws.set p x) b c) (hw : WF kd) (hp : Inner kd p) : RefC kd ws b c := by
  obtain ⟨m, h⟩ := h
  exact ⟨m, (hp.at' hw).1 h⟩
theorem RefA.set (h : RefA kd ws b) (hw : WF kd) (hp : Inner kd p) (x : Int) : RefA kd (ws.set p x) b := by
  obtain ⟨c, h⟩ := h.refC
  exact (h.set hw hp x).refA
/-- Fields of two references are two words. -/
theorem RefC.apart (h : RefC kd ws b c) (h' : RefC kd ws b' c') (hf : Fine ws kd ds) {i j : Nat} (hi : i < 5) (hj : j < 5) (e : b + 1 + i = b' + 1 + j) : b = b' ∧ i = j := by
  obtain ⟨m, h1, h2, _⟩ := h.room hf
  obtain ⟨m', h1', h2', _⟩ := h'.room hf
  have := hf.wf.apart h1 h1' (x := b + 1 + i) (by omega) (by omega) (by omega) (by omega)
  omega
end

/-- What there is at a: a reference of a class, or none. -/
inductive StrT (kd : List PK) (ws : List Int) (a : Int) : Int → Prop
  | no (k c l E : Int) (f : Bool) : HeadT kd ws a k c l f E → k ≠ 4 → StrT kd ws a 0
  | yes (b : Nat) (c : Int) : a = b → RefC kd ws b c → StrT kd ws a c
/-- Refer's errors but those of room. -/
inductive MayT (kd : List PK) (ws : List Int) (n : Nat) (s a q : Int) : Int → Prop
  | str : ¬ (1 ≤ s ∧ s ≤ 3) → MayT kd ws n s a q 1
  | none : 1 ≤ s → s ≤ 3 → ¬ (-1 ≤ q ∧ q < n) → MayT kd ws n s a q 2
  | ph : s = 3 → q = -1 → MayT kd ws n s a q 1
  | head (k c l E : Int) (f : Bool) : 1 ≤ s → s ≤ 3 → -1 ≤ q → q < n → ¬ (s = 3 ∧ q = -1) → HeadT kd ws a k c l f E → MayT kd ws n s a q E
/-- What a new reference's words are. -/
def madeW (ws : List Int) (b : Nat) (a q t u : Int) : List Int := (((ws.set (b + 1) a).set (b + 2) (q + 1)).set (b + 4) t).set (b + 5) u
/-- What Refer answers and leaves. -/
inductive ReferT (kd : List PK) (ws : List Int) (ds : List (Int × List Int)) (n : Nat) (S s a q t : Int) : Int → Int → List Int → List PK → Int → Prop
  | may (E : Int) : MayT kd ws n s a q E → E ≠ 0 → ReferT kd ws ds n S s a q t 0 E ws kd S
  | full (E : Int) : MayT kd ws n s a q 0 → MakeT kd ws ds 4 s 5 false 0 E ws kd → E ≠ 0 → ReferT kd ws ds n S s a q t 0 E ws kd S
  | yes (b : Nat) (ws1 : List Int) (kd' : List PK) : MayT kd ws n s a q 0 → MakeT kd ws ds 4 s 5 false b 0 ws1 kd' → RefC kd' ws1 b s → ReferT kd ws ds n S s a q t b 0 (madeW ws1 b a q t (S + 1)) kd' (S + 1)
/-- What Referent answers and leaves. -/
inductive ReadT (kd : List PK) (ws : List Int) (a t : Int) : Int → Int → List Int → Prop
  | kind : StrT kd ws a 0 → ReadT kd ws a t 0 5 ws
  | ph (b : Nat) : a = b → RefC kd ws b 3 → ReadT kd ws a t 0 0 ws
  | plain (b : Nat) (c N : Int) : a = b → RefC kd ws b c → c ≠ 3 → ws[b + 1]?.getD 0 = N → c ≠ 1 ∨ N = 0 → ReadT kd ws a t N 0 ws
  | soft (b : Nat) (N : Int) : a = b → RefC kd ws b 1 → ws[b + 1]?.getD 0 = N → N ≠ 0 → ReadT kd ws a t N 0 (ws.set (b + 4) t)
/-- Words, the first n of a list cleared. -/
def clrN (ws L : List Int) : Nat → List Int
  | 0 => ws
  | n + 1 => (clrN ws L n).set ((L[n]?.getD 0).toNat + 1) 0
/-- What Clear answers and leaves. -/
inductive ClearT (kd : List PK) (ws L : List Int) : Int → List Int → Prop
  | kind (j : Nat) : j < L.length → (∀ i, i < j → ∃ (b : Nat) (c : Int), L[i]?.getD 0 = b ∧ RefC kd ws b c) → StrT kd ws (L[j]?.getD 0) 0 → ClearT kd ws L 5 ws
  | yes : (∀ i, i < L.length → ∃ (b : Nat) (c : Int), L[i]?.getD 0 = b ∧ RefC kd ws b c) → ClearT kd ws L 0 (clrN ws L L.length)
/-- What Enqueue answers and leaves. -/
inductive EnqT (kd : List PK) (ws : List Int) (Ls : List (List Int)) (a : Int) : Bool → Int → List Int → List (List Int) → Prop
  | kind : StrT kd ws a 0 → EnqT kd ws Ls a false 5 ws Ls
  | no (b : Nat) (c : Int) : a = b → RefC kd ws b c → ws[b + 2]?.getD 0 < 1 → EnqT kd ws Ls a false 0 (ws.set (b + 1) 0) Ls
  | yes (b : Nat) (c x E : Int) (ws' : List Int) (Ls' : List (List Int)) : a = b → RefC kd ws b c → ws[b + 2]?.getD 0 = x → 1 ≤ x → PushT kd (ws.set (b + 1) 0) Ls (x - 1) b E ws' Ls' → RefC kd ws' b c → EnqT kd ws Ls a true 0 (ws'.set (b + 2) (-1)) Ls'

section
variable {kd kd' : List PK} {ws ws' : List Int} {ds : List (Int × List Int)} {a : Int}
theorem strT_ex (hf : Fine ws kd ds) (a : Int) : ∃ c, StrT kd ws a c := by
  rcases at_or hf.ob a with ⟨b, m, k, c, l, f, hA, _⟩ | hn
  · by_cases hk : k = 4
    · obtain ⟨e, h, _⟩ := refC_of_at hA hk
      exact ⟨c, .yes b c e h⟩
    · exact ⟨0, .no k c l 0 f (.yes b m k c l f hA) hk⟩
  · exact ⟨0, .no 0 0 0 2 false (.no hn) (by omega)⟩
theorem StrT.or {c : Int} (h : StrT kd ws a c) : StrT kd ws a 0 ∨ ∃ b : Nat, a = b ∧ RefC kd ws b c := by
  cases h with
  | no k c l E f h hk => exact .inl (.no k c l E f h hk)
  | yes b c e h => exact .inr ⟨b, e, h⟩
theorem mayT_ex (hf : Fine ws kd ds) (n : Nat) (s a q : Int) : ∃ E, MayT kd ws n s a q E := by
  by_cases h1 : 1 ≤ s ∧ s ≤ 3
  · by_cases h2 : -1 ≤ q ∧ q < n
    · by_cases h3 : s = 3 ∧ q = -1
      · exact ⟨_, .ph h3.1 h3.2⟩
      · obtain ⟨k, c, l, f, E, hT⟩ := headT_ex hf.ob a
        exact ⟨_, .head k c l E f h1.1 h1.2 h2.1 h2.2 h3 hT⟩
    · exact ⟨_, .none h1.1 h1.2 h2⟩
  · exact ⟨_, .str h1⟩
theorem MayT.zero {n : Nat} {s a q : Int} (h : MayT kd ws n s a q 0) : 1 ≤ s ∧ s ≤ 3 ∧ -1 ≤ q ∧ q < n := by
  cases h with
  | head k c l E f h1 h2 h3 h4 _ _ => exact ⟨h1, h2, h3, h4⟩
theorem mayH_ref {s : Int} (h1 : 1 ≤ s) (h2 : s ≤ 3) : mayH 4 s 5 false = true := by
  rw [mayH_4, inB_yes h1 h2, inB_yes (by omega) (by omega)]; rfl
/-- A reference that was made lies there; what there was lies there yet. -/
theorem MakeT.ref {s : Int} {b : Nat} (h : MakeT kd ws ds 4 s 5 false b 0 ws' kd') (hf : Fine ws kd ds) : RefC kd' ws' b s ∧ Fine ws' kd' ds ∧ kd'.length = kd.length ∧
    (∀ (p m : Nat) (k c l : Int) (f : Bool), At kd ws p p m k c l f → At kd' ws' p p m k c l f ∧ (p + m ≤ b ∨ b + 6 ≤ p) ∧ ∀ i, i < m → ws'[p + i]?.getD 0 = ws[p + i]?.getD 0) ∧
    (∀ i, i < 5 → ws'[b + 1 + i]?.getD 0 = 0) := by
  obtain ⟨f1, l1⟩ := h.fine hf
  have hl := hf.len
  generalize hB : (b : Int) = B at h
  cases h with
  | fits E _ _ _ h0 => exact absurd rfl h0
  | yes a m kd' hm _ hF hr hb =>
    obtain rfl : a = b := by omega
    obtain ⟨b', hb', h1, h2, h3, h4, h5, h6, h7⟩ := hr.spec hf.wf
    obtain rfl : m = b' := by rw [hb] at hb'; omega
    have hat := MakeT.at hf.wf hf.len hm hr hb
    have hR : RefC kd' ((fill0 ws a m).set a (putH 4 s 5 false)) a s := ⟨m, hat⟩
    have hm6 : 6 ≤ m := by
      obtain ⟨m', g1, g2, _⟩ := hR.room f1
      rw [hat.2.1] at g1
      cases g1
      exact g2
    refine ⟨hR, f1, l1, fun p n k c l f hA => ?_, fun i hi => ?_⟩
    · obtain ⟨g1, g2⟩ := hA.made (x := putH 4 s 5 false) hf.wf hf.len hr hb
      refine ⟨g1, by omega, fun i hi => ?_⟩
      rw [set_get_other _ _ _ _ (by omega), fill0_get _ _ _ _ (by omega), if_neg (by omega)]
    · rw [set_get_other _ _ _ _ (by omega), fill0_get _ _ _ _ (by omega), if_pos (by omega)]
theorem referT_ex (hf : Fine ws kd ds) (n : Nat) (S s a q t : Int) : ∃ N E ws' kd' S', ReferT kd ws ds n S s a q t N E ws' kd' S' := by
  obtain ⟨E, hM⟩ := mayT_ex hf n s a q
  by_cases hE : E = 0
  · subst hE
    obtain ⟨h1, h2, _⟩ := hM.zero
    obtain ⟨N, E, ws', kd', hT⟩ := makeT_ex ws ds 4 s 5 false hf.wf
    have hT' := hT
    cases hT with
    | arg h => rw [mayH_ref h1 h2] at h; cases h
    | fits E _ _ h hE => exact ⟨_, _, _, _, _, .full E hM hT' hE⟩
    | full _ _ _ _ => exact ⟨_, _, _, _, _, .full 3 hM hT' (by omega)⟩
    | yes b m kd' _ _ _ _ _ => exact ⟨_, _, _, _, _, .yes b _ kd' hM hT' (hT'.ref hf).1⟩
  · exact ⟨_, _, _, _, _, .may E hM hE⟩
theorem readT_ex (hf : Fine ws kd ds) (a t : Int) : ∃ N E ws', ReadT kd ws a t N E ws' := by
  obtain ⟨c, hS⟩ := strT_ex hf a
  rcases hS.or with h | ⟨b, e, h⟩
  · exact ⟨_, _, _, .kind h⟩
  · by_cases h3 : c = 3
    · subst h3; exact ⟨_, _, _, .ph b e h⟩
    · by_cases h1 : c = 1 ∧ ws[b + 1]?.getD 0 ≠ 0
      · obtain ⟨rfl, h1⟩ := h1
        exact ⟨_, _, _, .soft b _ e h rfl h1⟩
      · exact ⟨_, _, _, .plain b c _ e h h3 rfl (by omega)⟩
theorem clearT_ex (hf : Fine ws kd ds) (L : List Int) : ∃ E ws', ClearT kd ws L E ws' := by
  have key : ∀ n, n ≤ L.length → (∃ j, j < L.length ∧ (∀ i, i < j → ∃ (b : Nat) (c : Int), L[i]?.getD 0 = b ∧ RefC kd ws b c) ∧ StrT kd ws (L[j]?.getD 0) 0) ∨ ∀ i, i < n → ∃ (b : Nat) (c : Int), L[i]?.getD 0 = b ∧ RefC kd ws b c := by
    intro n
    induction n with
    | zero => intro _; exact .inr (fun i hi => by omega)
    | succ n ih =>
      intro hn
      rcases ih (by omega) with h | h
      · exact .inl h
      · obtain ⟨c, hS⟩ := strT_ex hf (L[n]?.getD 0)
        rcases hS.or with h0 | ⟨b, e, h1⟩
        · exact .inl ⟨n, by omega, h, h0⟩
        · refine .inr (fun i hi => ?_)
          rcases Nat.lt_or_ge i n with g | g
          · exact h i g
          · obtain rfl : i = n := by omega
            exact ⟨b, c, e, h1⟩
  rcases key L.length (Nat.le_refl _) with ⟨j, h1, h2, h3⟩ | h
  · exact ⟨_, _, .kind j h1 h2 h3⟩
  · exact ⟨_, _, .yes h⟩
end

section
variable {kd kd' : List PK} {ws ws' L : List Int} {ds : List (Int × List Int)} {a : Int}
theorem Fine.inI (hf : Fine ws kd ds) (i : Nat) : inI (ws[i]?.getD 0) := hf.ob.bd i
/-- A new reference's words are put one by one. -/
theorem RefC.madeW {b : Nat} {c a q t u : Int} (h : RefC kd ws b c) (hf : Fine ws kd ds) (ha : Go.Proofs.YtgpidokklhjfdaaGreat.inI a) (hq : Go.Proofs.YtgpidokklhjfdaaGreat.inI (q + 1)) (ht : Go.Proofs.YtgpidokklhjfdaaGreat.inI t) (hu : Go.Proofs.YtgpidokklhjfdaaGreat.inI u) :
    PutT kd ws b 0 a 0 (ws.set (b + 1) a) ∧ PutT kd (ws.set (b + 1) a) b 1 (q + 1) 0 ((ws.set (b + 1) a).set (b + 2) (q + 1)) ∧ PutT kd ((ws.set (b + 1) a).set (b + 2) (q + 1)) b 3 t 0 (((ws.set (b + 1) a).set (b + 2) (q + 1)).set (b + 4) t) ∧
    PutT kd (((ws.set (b + 1) a).set (b + 2) (q + 1)).set (b + 4) t) b 4 u 0 (madeW ws b a q t u) ∧ Fine (madeW ws b a q t u) kd ds ∧ RefC kd (madeW ws b a q t u) b c := by
  have p0 := h.inner hf 0 (by omega)
  have p1 := h.inner hf 1 (by omega)
  have p3 := h.inner hf 3 (by omega)
  have p4 := h.inner hf 4 (by omega)
  have f1 := p0.fine hf ha
  have r1 := h.set hf.wf p0 a
  have f2 := p1.fine f1 hq
  have r2 := r1.set hf.wf p1 (q + 1)
  have f3 := p3.fine f2 ht
  have r3 := r2.set hf.wf p3 t
  exact ⟨h.put hf 0 (by omega) a, r1.put f1 1 (by omega) (q + 1), r2.put f2 3 (by omega) t, r3.put f3 4 (by omega) u, p4.fine f3 hu, r3.set hf.wf p4 u⟩
/-- Clearing, one by one. -/
theorem clrN_step (hf : Fine ws kd ds) (h : ∀ i, i < L.length → ∃ (b : Nat) (c : Int), L[i]?.getD 0 = b ∧ RefC kd ws b c) : ∀ n, n ≤ L.length → Fine (clrN ws L n) kd ds ∧ (∀ (b : Nat) (c : Int), RefC kd ws b c → RefC kd (clrN ws L n) b c) ∧ ∀ (q m : Nat) (y k c l : Int) (f : Bool), At kd ws y q m k c l f → At kd (clrN ws L n) y q m k c l f := by
  intro n
  induction n with
  | zero => intro _; exact ⟨hf, fun b c h => h, fun q m y k c l f h => h⟩
  | succ n ih =>
    intro hn
    obtain ⟨g1, g2, g3⟩ := ih (by omega)
    obtain ⟨b, c, e, hR⟩ := h n (by omega)
    have p0 := hR.inner hf 0 (by omega)
    have eb : (L[n]?.getD 0).toNat + 1 = b + 1 + 0 := by rw [e]; simp
    show Fine ((clrN ws L n).set ((L[n]?.getD 0).toNat + 1) 0) kd ds ∧ (∀ (b : Nat) (c : Int), RefC kd ws b c → RefC kd ((clrN ws L n).set ((L[n]?.getD 0).toNat + 1) 0) b c) ∧ ∀ (q m : Nat) (y k c l : Int) (f : Bool), At kd ws y q m k c l f → At kd ((clrN ws L n).set ((L[n]?.getD 0).toNat + 1) 0) y q m k c l f
    rw [eb]
    exact ⟨p0.fine g1 inI_0, fun b c h => (g2 b c h).set hf.wf p0 0, fun q m y k c l f h => (p0.at' hf.wf).2 (g3 q m y k c l f h)⟩
theorem clrN_put (hf : Fine ws kd ds) (h : ∀ i, i < L.length → ∃ (b : Nat) (c : Int), L[i]?.getD 0 = b ∧ RefC kd ws b c) (n : Nat) (hn : n < L.length) : PutT kd (clrN ws L n) (L[n]?.getD 0) 0 0 0 (clrN ws L (n + 1)) := by
  obtain ⟨g1, g2, _⟩ := clrN_step hf h n (by omega)
  obtain ⟨b, c, e, hR⟩ := h n hn
  show PutT kd (clrN ws L n) (L[n]?.getD 0) 0 0 0 ((clrN ws L n).set ((L[n]?.getD 0).toNat + 1) 0)
  rw [e]
  exact (g2 b c hR).put g1 0 (by omega) 0
/-- What clearing leaves of a word. -/
theorem clrN_get {p : Nat} (hp : ∀ i, i < L.length → (L[i]?.getD 0).toNat + 1 ≠ p) : ∀ n, n ≤ L.length → (clrN ws L n)[p]?.getD 0 = ws[p]?.getD 0 := by
  intro n
  induction n with
  | zero => intro _; rfl
  | succ n ih =>
    intro hn
    show ((clrN ws L n).set ((L[n]?.getD 0).toNat + 1) 0)[p]?.getD 0 = _
    rw [set_get_other _ _ _ _ (hp n (by omega)), ih (by omega)]
theorem ClearT.fine {E : Int} (h : ClearT kd ws L E ws') (hf : Fine ws kd ds) : Fine ws' kd ds := by
  cases h with
  | kind j _ _ _ => exact hf
  | yes h => exact (clrN_step hf h _ (Nat.le_refl _)).1
theorem ReadT.fine {t N E : Int} (h : ReadT kd ws a t N E ws') (hf : Fine ws kd ds) (ht : Go.Proofs.YtgpidokklhjfdaaGreat.inI t) : Fine ws' kd ds := by
  cases h with
  | kind _ => exact hf
  | ph b _ _ => exact hf
  | plain b c N _ _ _ _ _ => exact hf
  | soft b N e h _ _ => exact (h.inner hf 3 (by omega)).fine hf ht
end

end Go.Proofs.YtgpidokklhjfdaaGreat
