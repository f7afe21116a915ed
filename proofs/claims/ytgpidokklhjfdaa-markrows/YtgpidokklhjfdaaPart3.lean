/-
  Contracts of what the statement calls, one text behind the other (ObjM, SpaceAns, ObjT, ReachM, TraceM, Sep, SpaceOps, SpaceAlloc, SpaceTake, SpaceAll).
-/
import Derived.Test.YtgpidokklhjfdaaPart1
import Derived.Test.YtgpidokklhjfdaaPart2
import Derived.RegionTactic
import Derived.ChangeAlike

/-
  Objects in words: plain facts on pages, words and classes; no program is spoken of but by the numbers of heads.
-/
namespace Go.Proofs.Ytgpidokklhjfdaa
open Go.RowKit

def inI (x : Int) : Prop := -9223372036854775808 ≤ x ∧ x ≤ 9223372036854775807

/-- The word x is that of a head that has room in m words, and whose class, if it has one, is there. -/
def HeadOk (ds : List (Int × List Int)) (m : Nat) (x : Int) : Prop := ∃ k c l f, Word x k c l f ∧ l + 1 ≤ m ∧ (k = 1 → ∃ (i : Nat) (L : List Int), c = (i : Int) + 1 ∧ ds[i]? = some (l, L))

/-- Every block has an object; all words are numbers. -/
structure OB (kd : List PK) (ws : List Int) (ds : List (Int × List Int)) : Prop where
  head : ∀ a m, findN kd a = some (a, m) → HeadOk ds m (ws[a]?.getD 0)
  bd : ∀ i : Nat, inI (ws[i]?.getD 0)

theorem inI_0 : inI 0 := by unfold inI; omega
theorem set_bd {ws : List Int} (h : ∀ i : Nat, inI (ws[i]?.getD 0)) (a : Nat) (x : Int) (hx : inI x) : ∀ i : Nat, inI ((ws.set a x)[i]?.getD 0) := by
  intro i
  by_cases e : a = i
  · subst e
    rcases Nat.lt_or_ge a ws.length with hl | hl
    · rw [set_get_same ws a x hl]; exact hx
    · rw [List.getElem?_eq_none (by simpa using hl)]; exact inI_0
  · rw [set_get_other ws a i x e]; exact h i
theorem fill_bd {ws : List Int} (h : ∀ i : Nat, inI (ws[i]?.getD 0)) (a b : Nat) (hl : a + b ≤ ws.length) : ∀ i : Nat, inI ((fill0 ws a b)[i]?.getD 0) := by
  intro i
  rw [fill0_get ws a b i hl]
  split
  · exact inI_0
  · exact h i

theorem HeadOk.more {ds : List (Int × List Int)} {m : Nat} {x : Int} (h : HeadOk ds m x) (d : Int × List Int) : HeadOk (ds ++ [d]) m x := by
  obtain ⟨k, c, l, f, h1, h2, h3⟩ := h
  refine ⟨k, c, l, f, h1, h2, fun e => ?_⟩
  obtain ⟨i, L, e1, e2⟩ := h3 e
  have hi : i < ds.length := by
    rcases Nat.lt_or_ge i ds.length with hi | hi
    · exact hi
    · rw [List.getElem?_eq_none hi] at e2; cases e2
  exact ⟨i, L, e1, by rw [List.getElem?_append_left hi]; exact e2⟩
theorem OB.add {kd : List PK} {ws : List Int} {ds : List (Int × List Int)} (h : OB kd ws ds) (d : Int × List Int) : OB kd ws (ds ++ [d]) := ⟨fun a m e => (h.head a m e).more d, h.bd⟩

theorem OB.fresh (n : Nat) (hn : 1 ≤ n) : OB (freshK n) (zeros (64 * n)) [] :=
  ⟨fun a m e => (by rw [freshK_find n a hn] at e; cases e), fun i => (by rw [zeros_get]; exact inI_0)⟩

/-- Two blocks share no word. -/
theorem WF.apart {kd : List PK} (h : WF kd) {a m b n x : Nat} (ha : findN kd a = some (a, m)) (hb : findN kd b = some (b, n)) (h1 : a ≤ x) (h2 : x < a + m) (h3 : b ≤ x) (h4 : x < b + n) : a = b ∧ m = n := by
  obtain ⟨_, _, _, _, _, e1⟩ := h.found ha
  obtain ⟨_, _, _, _, _, e2⟩ := h.found hb
  have := (e1 x h1 h2).symm.trans (e2 x h3 h4)
  simpa using this

/-- A word that is no head is written. -/
theorem OB.field {kd : List PK} {ws : List Int} {ds : List (Int × List Int)} (h : OB kd ws ds) (hw : WF kd) {a m i : Nat} (ha : findN kd a = some (a, m)) (h1 : a < i) (h2 : i < a + m) (x : Int) (hx : inI x) : OB kd (ws.set i x) ds := by
  refine ⟨fun b n e => ?_, set_bd h.bd i x hx⟩
  rw [set_get_other ws i b x (fun e' => by
    subst e'
    obtain ⟨g1, g2, _⟩ := hw.found e
    obtain ⟨rfl, _⟩ := hw.apart ha e (by omega) h2 g1 g2
    omega)]
  exact h.head b n e
/-- A head is written. -/
theorem OB.setHead {kd : List PK} {ws : List Int} {ds : List (Int × List Int)} (h : OB kd ws ds) {a m : Nat} (ha : findN kd a = some (a, m)) (hl : a < ws.length) (x : Int) (hx : HeadOk ds m x) (hi : inI x) : OB kd (ws.set a x) ds := by
  refine ⟨fun b n e => ?_, set_bd h.bd a x hi⟩
  by_cases hb : a = b
  · subst hb
    rw [set_get_same ws a x hl]
    rw [ha] at e
    cases e
    exact hx
  · rw [set_get_other ws a b x hb]
    exact h.head b n e
/-- A block is made, and its head written. -/
theorem OB.make {kd kd' : List PK} {ws : List Int} {ds : List (Int × List Int)} {n : Int} {a b : Nat} (h : OB kd ws ds) (hw : WF kd) (hl : ws.length = 64 * kd.length) (hr : AllocR kd n (some (a, kd'))) (hb : blockI n = b) (x : Int) (hx : HeadOk ds b x) (hi : inI x) : OB kd' ((fill0 ws a b).set a x) ds := by
  obtain ⟨b', hb', h1, h2, h3, h4, h5, h6, h7⟩ := hr.spec hw
  obtain rfl : b = b' := by rw [hb] at hb'; omega
  have hfl := fill0_length ws a b (by omega)
  refine ⟨fun c m e => ?_, set_bd (fill_bd h.bd a b (by omega)) a x hi⟩
  rw [h7 c] at e
  split at e
  · cases e
    rw [set_get_same _ _ _ (by omega)]
    exact hx
  · have hca : a ≠ c := by omega
    rw [set_get_other _ _ _ _ hca, fill0_get _ _ _ _ (by omega), if_neg (by assumption)]
    exact h.head c m e
/-- A block is freed. -/
theorem OB.free {kd kd' : List PK} {ws : List Int} {ds : List (Int × List Int)} {a m : Nat} (h : OB kd ws ds) (hw : WF kd) (hf : findN kd a = some (a, m)) (hr : FreeR kd a kd') : OB kd' ws ds := by
  obtain ⟨_, _, h3⟩ := hr.spec hw hf
  refine ⟨fun c n e => ?_, h.bd⟩
  rw [h3 c] at e
  split at e
  · cases e
  · exact h.head c n e

/-- An object at a: its head. -/
def At (kd : List PK) (ws : List Int) (a : Int) (b m : Nat) (k c l : Int) (f : Bool) : Prop := a = (b : Int) ∧ findN kd b = some (b, m) ∧ Word (ws[b]?.getD 0) k c l f
/-- No block begins at a. -/
def NotAt (kd : List PK) (a : Int) : Prop := ∀ s n, findI kd a = some (s, n) → (s : Int) ≠ a
theorem at_or {kd : List PK} {ws : List Int} {ds : List (Int × List Int)} (h : OB kd ws ds) (a : Int) : (∃ b m k c l f, At kd ws a b m k c l f ∧ l + 1 ≤ m ∧ (k = 1 → ∃ (i : Nat) (L : List Int), c = (i : Int) + 1 ∧ ds[i]? = some (l, L))) ∨ NotAt kd a := by
  by_cases e : ∃ s n, findI kd a = some (s, n) ∧ (s : Int) = a
  · obtain ⟨s, n, h1, h2⟩ := e
    have h3 : findN kd s = some (s, n) := by
      unfold findI at h1
      rw [if_neg (by omega), ← h2, Int.toNat_natCast] at h1
      exact h1
    obtain ⟨k, c, l, f, g1, g2, g3⟩ := h.head s n h3
    exact .inl ⟨s, n, k, c, l, f, ⟨h2.symm, h3, g1⟩, g2, g3⟩
  · exact .inr (fun s n e1 e2 => e ⟨s, n, e1, e2⟩)

end Go.Proofs.Ytgpidokklhjfdaa

/-
  What Alloc and Free answer and leave, whatever is asked: plain facts.
-/
namespace Go.Proofs.Ytgpidokklhjfdaa
open Go.RowKit

/-- What Alloc answers and leaves. -/
inductive AllocT (kd : List PK) (ws : List Int) (n : Int) : Int → Int → List Int → List PK → Prop
  | arg : blockI n = 0 → AllocT kd ws n 0 1 ws kd
  | no : blockI n ≠ 0 → AllocR kd n none → AllocT kd ws n 0 3 ws kd
  | yes (a b : Nat) (kd' : List PK) : AllocR kd n (some (a, kd')) → blockI n = b → AllocT kd ws n a 0 (fill0 ws a b) kd'
theorem allocT_ex {kd : List PK} (ws : List Int) (n : Int) (hw : WF kd) : ∃ N E ws' kd', AllocT kd ws n N E ws' kd' := by
  by_cases hb : blockI n = 0
  · exact ⟨_, _, _, _, .arg hb⟩
  · obtain ⟨r, hr⟩ := alloc_ex kd n hb
    cases r with
    | none => exact ⟨_, _, _, _, .no hb hr⟩
    | some r =>
      obtain ⟨a, kd'⟩ := r
      obtain ⟨b, hb', _⟩ := hr.spec hw
      exact ⟨_, _, _, _, .yes a b kd' hr hb'⟩
theorem AllocT.spec {kd kd' : List PK} {ws ws' : List Int} {n N E : Int} (h : AllocT kd ws n N E ws' kd') (hw : WF kd) (hl : ws.length = 64 * kd.length) :
    WF kd' ∧ kd'.length = kd.length ∧ ws'.length = ws.length ∧ (E = 0 ∧ (∃ a : Nat, N = a ∧ a < ws.length) ∨ (E = 1 ∨ E = 3) ∧ N = 0) := by
  cases h with
  | arg h => exact ⟨hw, rfl, rfl, .inr ⟨.inl rfl, rfl⟩⟩
  | no h hr => exact ⟨hw, rfl, rfl, .inr ⟨.inr rfl, rfl⟩⟩
  | yes a b kd' hr hb =>
    obtain ⟨b', hb', h1, h2, h3, h4, h5, _⟩ := hr.spec hw
    obtain rfl : b = b' := by rw [hb] at hb'; omega
    exact ⟨h2, h3, fill0_length _ _ _ (by omega), .inl ⟨rfl, a, rfl, by omega⟩⟩
/-- What Free answers and leaves. -/
inductive FreeT (kd : List PK) (a : Int) : Int → List PK → Prop
  | no : (∀ s n, findI kd a = some (s, n) → (s : Int) ≠ a) → FreeT kd a 2 kd
  | yes (b m : Nat) (kd' : List PK) : a = b → findN kd b = some (b, m) → FreeR kd b kd' → FreeT kd a 0 kd'
theorem freeT_ex {kd : List PK} (a : Int) (hw : WF kd) : ∃ E kd', FreeT kd a E kd' := by
  by_cases h : ∃ s n, findI kd a = some (s, n) ∧ (s : Int) = a
  · obtain ⟨s, n, h1, h2⟩ := h
    have h3 : findN kd s = some (s, n) := by
      unfold findI at h1
      rw [if_neg (by omega), ← h2, Int.toNat_natCast] at h1
      exact h1
    obtain ⟨kd', hr⟩ := FreeR.ex hw h3
    exact ⟨_, _, .yes s n kd' h2.symm h3 hr⟩
  · exact ⟨_, _, .no (fun s n e e' => h ⟨s, n, e, e'⟩)⟩
theorem FreeT.spec {kd kd' : List PK} {a E : Int} (h : FreeT kd a E kd') (hw : WF kd) : WF kd' ∧ kd'.length = kd.length := by
  cases h with
  | no h => exact ⟨hw, rfl⟩
  | yes b m kd' e hf hr => exact ⟨(hr.spec hw hf).1, (hr.spec hw hf).2.1⟩

theorem each_fresh (n : Nat) (h : 1 ≤ n) : eachK (freshK n) = [] := by
  rw [List.eq_nil_iff_forall_not_mem]
  intro x hx
  obtain ⟨p, _, hm⟩ := eachTo_mem _ _ x hx
  rw [freshK_at n p h] at hm
  split at hm <;> cases hm
theorem used_fresh (n : Nat) (h : 1 ≤ n) : usedK (freshK n) = 0 := by unfold usedK; rw [each_fresh n h]; rfl

end Go.Proofs.Ytgpidokklhjfdaa

/-
  What the calls of a heap answer and leave, whatever is asked: plain facts.
-/
namespace Go.Proofs.Ytgpidokklhjfdaa
open Go.RowKit

/-- What its numbers are: every block has an object. -/
structure Fine (ws : List Int) (kd : List PK) (ds : List (Int × List Int)) : Prop where
  wf : WF kd
  ob : OB kd ws ds
  few : ds.length ≤ 256
  len : ws.length = 64 * kd.length

theorem room_ge (n : Int) (h1 : 1 ≤ n) (h2 : n ≤ 1024) : n ≤ blockI n := by
  unfold blockI classI pagesI sizesL
  repeat' split
  all_goals (simp at *; try omega)
theorem class_in {ds : List (Int × List Int)} {c : Int} (h1 : 1 ≤ c) (h2 : c ≤ ds.length) : ∃ (i : Nat) (d : Int × List Int), c = (i : Int) + 1 ∧ ds[i]? = some d := by
  have h3 : (c - 1).toNat < ds.length := by omega
  exact ⟨(c - 1).toNat, ds[(c - 1).toNat], by omega, by simp⟩

/-- Whether a block begins at a. -/
def isAt (kd : List PK) (a : Int) : Bool := match findI kd a with | some (s, _) => (s : Int) == a | none => false
theorem find_nat (kd : List PK) (b : Nat) : findI kd (b : Int) = findN kd b := by unfold findI; rw [if_neg (by omega), Int.toNat_natCast]
theorem isAt_yes {kd : List PK} {ws : List Int} {a k c l : Int} {b m : Nat} {f : Bool} (h : At kd ws a b m k c l f) : isAt kd a = true := by
  obtain ⟨rfl, h1, _⟩ := h
  unfold isAt
  rw [find_nat, h1]
  simp
theorem isAt_no {kd : List PK} {a : Int} (h : NotAt kd a) : isAt kd a = false := by
  unfold isAt
  cases e : findI kd a with
  | none => rfl
  | some o => obtain ⟨s, n⟩ := o; simpa using h s n e

/-- What Head answers. -/
inductive HeadT (kd : List PK) (ws : List Int) (a : Int) : Int → Int → Int → Bool → Int → Prop
  | no : NotAt kd a → HeadT kd ws a 0 0 0 false 2
  | yes (b m : Nat) (k c l : Int) (f : Bool) : At kd ws a b m k c l f → HeadT kd ws a k c l f 0
theorem headT_ex {kd : List PK} {ws : List Int} {ds : List (Int × List Int)} (h : OB kd ws ds) (a : Int) : ∃ k c l f E, HeadT kd ws a k c l f E := by
  rcases at_or h a with ⟨b, m, k, c, l, f, h1, _⟩ | h1
  · exact ⟨_, _, _, _, _, .yes b m k c l f h1⟩
  · exact ⟨_, _, _, _, _, .no h1⟩
theorem Word.bd {x k c l : Int} {f : Bool} (h : Word x k c l f) : 1 ≤ k ∧ k ≤ 4 ∧ 0 ≤ c ∧ c ≤ 256 ∧ 0 ≤ l ∧ l ≤ 1023 := mayH_bd h.1

/-- Where a field lies. -/
inductive PlaceT (kd : List PK) (ws : List Int) (a i : Int) : Nat → Int → Prop
  | none : NotAt kd a → PlaceT kd ws a i 0 2
  | arg (b m : Nat) (k c l : Int) (f : Bool) : At kd ws a b m k c l f → ¬ (0 ≤ i ∧ i < l) → PlaceT kd ws a i 0 1
  | yes (b m j : Nat) (k c l : Int) (f : Bool) : At kd ws a b m k c l f → i = j → (j : Int) < l → l + 1 ≤ m → PlaceT kd ws a i (b + 1 + j) 0
theorem placeT_ex {kd : List PK} {ws : List Int} {ds : List (Int × List Int)} (h : OB kd ws ds) (a i : Int) : ∃ p E, PlaceT kd ws a i p E := by
  rcases at_or h a with ⟨b, m, k, c, l, f, h1, h2, _⟩ | h1
  · by_cases hi : 0 ≤ i ∧ i < l
    · obtain ⟨j, rfl⟩ := Int.eq_ofNat_of_zero_le hi.1
      exact ⟨_, _, .yes b m j k c l f h1 rfl hi.2 h2⟩
    · exact ⟨_, _, .arg b m k c l f h1 hi⟩
  · exact ⟨_, _, .none h1⟩
theorem At.facts {kd : List PK} {ws : List Int} {a k c l : Int} {b m : Nat} {f : Bool} (h : At kd ws a b m k c l f) (hw : WF kd) : a = b ∧ 64 ≤ b ∧ b + m ≤ 64 * kd.length ∧ m ≤ 1024 ∧ 1 ≤ m ∧ kd.length ≤ 256 := by
  obtain ⟨e, h1, _⟩ := h
  obtain ⟨g1, g2, g3, g4, g5, _⟩ := hw.found h1
  exact ⟨e, g3, g4, g5, by omega, hw.len2⟩
/-- What Field answers. -/
inductive FieldT (kd : List PK) (ws : List Int) (a i : Int) : Int → Int → Prop
  | no (E : Int) : PlaceT kd ws a i 0 E → E = 1 ∨ E = 2 → FieldT kd ws a i 0 E
  | yes (p : Nat) : PlaceT kd ws a i p 0 → p < ws.length → FieldT kd ws a i (ws[p]?.getD 0) 0
/-- What Put answers and leaves. -/
inductive PutT (kd : List PK) (ws : List Int) (a i x : Int) : Int → List Int → Prop
  | no (E : Int) : PlaceT kd ws a i 0 E → E = 1 ∨ E = 2 → PutT kd ws a i x E ws
  | yes (p : Nat) : PlaceT kd ws a i p 0 → p < ws.length → PutT kd ws a i x 0 (ws.set p x)
theorem PlaceT.or {kd : List PK} {ws : List Int} {a i E : Int} {p : Nat} (h : PlaceT kd ws a i p E) (hw : WF kd) (hl : ws.length = 64 * kd.length) : (p = 0 ∧ (E = 1 ∨ E = 2)) ∨ (E = 0 ∧ p < ws.length) := by
  cases h with
  | none h => exact .inl ⟨rfl, .inr rfl⟩
  | arg b m k c l f h h' => exact .inl ⟨rfl, .inl rfl⟩
  | yes b m j k c l f h h1 h2 h3 =>
    have := h.facts hw
    exact .inr ⟨rfl, by omega⟩
theorem fieldT_ex {kd : List PK} {ws : List Int} {ds : List (Int × List Int)} (h : Fine ws kd ds) (a i : Int) : ∃ N E, FieldT kd ws a i N E := by
  obtain ⟨p, E, hp⟩ := placeT_ex h.ob a i
  rcases hp.or h.wf h.len with ⟨rfl, e⟩ | ⟨rfl, e⟩
  · exact ⟨_, _, .no E hp e⟩
  · exact ⟨_, _, .yes p hp e⟩
theorem putT_ex {kd : List PK} {ws : List Int} {ds : List (Int × List Int)} (h : Fine ws kd ds) (a i x : Int) : ∃ E ws', PutT kd ws a i x E ws' := by
  obtain ⟨p, E, hp⟩ := placeT_ex h.ob a i
  rcases hp.or h.wf h.len with ⟨rfl, e⟩ | ⟨rfl, e⟩
  · exact ⟨_, _, .no E hp e⟩
  · exact ⟨_, _, .yes p hp e⟩
theorem PutT.fine {kd : List PK} {ws ws' : List Int} {ds : List (Int × List Int)} {a i x E : Int} (h : PutT kd ws a i x E ws') (hf : Fine ws kd ds) (hx : inI x) : Fine ws' kd ds := by
  cases h with
  | no E h _ => exact hf
  | yes p h hp =>
    cases h with
    | yes b m j k c l f h h1 h2 h3 =>
      exact ⟨hf.wf, hf.ob.field hf.wf h.2.1 (by omega) (by omega) x hx, hf.few, by rw [List.length_set]; exact hf.len⟩

/-- What Final answers and leaves. -/
inductive FinalT (kd : List PK) (ws : List Int) (a : Int) : Int → List Int → Prop
  | none : NotAt kd a → FinalT kd ws a 2 ws
  | kind (b m : Nat) (c l : Int) (f : Bool) : At kd ws a b m 4 c l f → FinalT kd ws a 5 ws
  | has (b m : Nat) (k c l : Int) : At kd ws a b m k c l true → k ≠ 4 → FinalT kd ws a 4 ws
  | yes (b m : Nat) (k c l : Int) : At kd ws a b m k c l false → k ≠ 4 → FinalT kd ws a 0 (ws.set b (putH k c l true))
theorem finalT_ex {kd : List PK} {ws : List Int} {ds : List (Int × List Int)} (h : OB kd ws ds) (a : Int) : ∃ E ws', FinalT kd ws a E ws' := by
  rcases at_or h a with ⟨b, m, k, c, l, f, h1, h2, _⟩ | h1
  · by_cases hk : k = 4
    · subst hk; exact ⟨_, _, .kind b m c l f h1⟩
    · cases f
      · exact ⟨_, _, .yes b m k c l h1 hk⟩
      · exact ⟨_, _, .has b m k c l h1 hk⟩
  · exact ⟨_, _, .none h1⟩
theorem may_final {k c l : Int} (h : mayH k c l false = true) (hk : k ≠ 4) : mayH k c l true = true := by
  unfold mayH at *; simp at h ⊢; omega
theorem put_in {k c l : Int} {f : Bool} (h : mayH k c l f = true) : inI (putH k c l f) := by
  have := mayH_bd h
  unfold inI putH
  split <;> omega
theorem FinalT.fine {kd : List PK} {ws ws' : List Int} {ds : List (Int × List Int)} {a E : Int} (h : FinalT kd ws a E ws') (hf : Fine ws kd ds) : Fine ws' kd ds := by
  cases h with
  | none h => exact hf
  | kind b m c l f h => exact hf
  | has b m k c l h hk => exact hf
  | yes b m k c l h hk =>
    obtain ⟨_, e1, e2, e3, e4, e5⟩ := h.facts hf.wf
    have hm := may_final h.2.2.1 hk
    refine ⟨hf.wf, hf.ob.setHead h.2.1 (by have := hf.len; omega) _ ?_ (put_in hm), hf.few, by rw [List.length_set]; exact hf.len⟩
    obtain ⟨k', c', l', f', g1, g2, g3⟩ := hf.ob.head b m h.2.1
    obtain ⟨_, _, p1, p2, p3, p4⟩ := g1.parts
    obtain ⟨_, _, q1, q2, q3, q4⟩ := h.2.2.parts
    obtain rfl : k = k' := by rw [← p1, ← q1]
    obtain rfl : c = c' := by rw [← p2, ← q2]
    obtain rfl : l = l' := by rw [← p3, ← q3]
    exact ⟨k, c, l, true, ⟨hm, rfl⟩, g2, g3⟩

/-- The first numbers. -/
def upL (l : Int) : List Int := (List.range l.toNat).map (fun i : Nat => (i : Int))
theorem upL_length (l : Int) : (upL l).length = l.toNat := by simp [upL]
theorem upL_get (l : Int) (i : Nat) (h : i < l.toNat) : (upL l)[i]?.getD 0 = i := by simp [upL, h]
/-- What Refs answers. -/
inductive RefsT (kd : List PK) (ws : List Int) (ds : List (Int × List Int)) (a : Int) : List Int → Prop
  | none : NotAt kd a → RefsT kd ws ds a []
  | plain (b m i : Nat) (c l : Int) (f : Bool) (L : List Int) : At kd ws a b m 1 c l f → c = (i : Int) + 1 → ds[i]? = some (l, L) → RefsT kd ws ds a L
  | refs (b m : Nat) (c l : Int) (f : Bool) : At kd ws a b m 2 c l f → RefsT kd ws ds a (upL l)
  | data (b m : Nat) (c l : Int) (f : Bool) : At kd ws a b m 3 c l f → RefsT kd ws ds a []
  | ref (b m : Nat) (c l : Int) (f : Bool) : At kd ws a b m 4 c l f → RefsT kd ws ds a [2]
theorem refsT_ex {kd : List PK} {ws : List Int} {ds : List (Int × List Int)} (h : OB kd ws ds) (a : Int) : ∃ L, RefsT kd ws ds a L := by
  rcases at_or h a with ⟨b, m, k, c, l, f, h1, h2, h3⟩ | h1
  · have hb := h1.2.2.bd
    rcases (show k = 1 ∨ k = 2 ∨ k = 3 ∨ k = 4 by omega) with rfl | rfl | rfl | rfl
    · obtain ⟨i, L, e1, e2⟩ := h3 rfl
      exact ⟨_, .plain b m i c l f L h1 e1 e2⟩
    · exact ⟨_, .refs b m c l f h1⟩
    · exact ⟨_, .data b m c l f h1⟩
    · exact ⟨_, .ref b m c l f h1⟩
  · exact ⟨_, .none h1⟩

/-- Whether an object may be made, but for room: the error. -/
inductive FitsT (ds : List (Int × List Int)) (k c l : Int) : Int → Prop
  | other : k ≠ 1 → FitsT ds k c l 0
  | none : k = 1 → c < 1 ∨ (ds.length : Int) < c → FitsT ds k c l 2
  | arg (i : Nat) (n : Int) (L : List Int) : k = 1 → c = (i : Int) + 1 → ds[i]? = some (n, L) → l ≠ n → FitsT ds k c l 1
  | yes (i : Nat) (L : List Int) : k = 1 → c = (i : Int) + 1 → ds[i]? = some (l, L) → FitsT ds k c l 0
theorem fitsT_ex (ds : List (Int × List Int)) (k c l : Int) : ∃ E, FitsT ds k c l E := by
  by_cases hk : k = 1
  · by_cases hc : c < 1 ∨ (ds.length : Int) < c
    · exact ⟨_, .none hk hc⟩
    · obtain ⟨i, ⟨n, L⟩, e1, e2⟩ := class_in (ds := ds) (c := c) (by omega) (by omega)
      by_cases hl : l = n
      · subst hl; exact ⟨_, .yes i L hk e1 e2⟩
      · exact ⟨_, .arg i n L hk e1 e2 hl⟩
  · exact ⟨_, .other hk⟩
theorem FitsT.errs {ds : List (Int × List Int)} {k c l E : Int} (h : FitsT ds k c l E) : E = 0 ∨ E = 1 ∨ E = 2 := by
  cases h <;> simp
/-- What Make answers and leaves. -/
inductive MakeT (kd : List PK) (ws : List Int) (ds : List (Int × List Int)) (k c l : Int) (f : Bool) : Int → Int → List Int → List PK → Prop
  | arg : (mayH k c l f && !f) = false → MakeT kd ws ds k c l f 0 1 ws kd
  | fits (E : Int) : mayH k c l f = true → f = false → FitsT ds k c l E → E ≠ 0 → MakeT kd ws ds k c l f 0 E ws kd
  | full : mayH k c l f = true → f = false → FitsT ds k c l 0 → AllocR kd (l + 1) none → MakeT kd ws ds k c l f 0 3 ws kd
  | yes (a b : Nat) (kd' : List PK) : mayH k c l f = true → f = false → FitsT ds k c l 0 → AllocR kd (l + 1) (some (a, kd')) → blockI (l + 1) = b → MakeT kd ws ds k c l f a 0 ((fill0 ws a b).set a (putH k c l false)) kd'
theorem makeT_ex {kd : List PK} (ws : List Int) (ds : List (Int × List Int)) (k c l : Int) (f : Bool) (hw : WF kd) : ∃ N E ws' kd', MakeT kd ws ds k c l f N E ws' kd' := by
  cases hm : mayH k c l f
  · exact ⟨_, _, _, _, .arg (by rw [hm]; rfl)⟩
  · cases f
    · obtain ⟨E, hE⟩ := fitsT_ex ds k c l
      by_cases e : E = 0
      · subst e
        have hb := mayH_bd hm
        have hg := room_ge (l + 1) (by omega) (by omega)
        obtain ⟨r, hr⟩ := alloc_ex kd (l + 1) (by omega)
        cases r with
        | none => exact ⟨_, _, _, _, .full hm rfl hE hr⟩
        | some r =>
          obtain ⟨a, kd'⟩ := r
          obtain ⟨b, hb', _⟩ := hr.spec hw
          exact ⟨_, _, _, _, .yes a b kd' hm rfl hE hr hb'⟩
      · exact ⟨_, _, _, _, .fits E hm rfl hE e⟩
    · exact ⟨_, _, _, _, .arg (by simp)⟩
theorem MakeT.fine {kd kd' : List PK} {ws ws' : List Int} {ds : List (Int × List Int)} {k c l N E : Int} {f : Bool} (h : MakeT kd ws ds k c l f N E ws' kd') (hf : Fine ws kd ds) : Fine ws' kd' ds ∧ kd'.length = kd.length := by
  cases h with
  | arg h => exact ⟨hf, rfl⟩
  | fits E _ _ _ _ => exact ⟨hf, rfl⟩
  | full _ _ _ _ => exact ⟨hf, rfl⟩
  | yes a b kd' hm e hF hr hb =>
    subst e
    obtain ⟨b', hb', h1, h2, h3, h4, h5, h6, h7⟩ := hr.spec hf.wf
    obtain rfl : b = b' := by rw [hb] at hb'; omega
    have hbd := mayH_bd hm
    have hg := room_ge (l + 1) (by omega) (by omega)
    refine ⟨⟨h2, hf.ob.make hf.wf hf.len hr hb _ ⟨k, c, l, false, ⟨hm, rfl⟩, by omega, fun e => ?_⟩ (put_in hm), hf.few, by rw [List.length_set, fill0_length _ _ _ (by have := hf.len; omega), h3]; exact hf.len⟩, h3⟩
    cases hF with
    | other h => exact absurd e h
    | yes i L _ e1 e2 => exact ⟨i, L, e1, e2⟩
theorem FreeT.fine {kd kd' : List PK} {ws : List Int} {ds : List (Int × List Int)} {a E : Int} (h : FreeT kd a E kd') (hf : Fine ws kd ds) : Fine ws kd' ds := by
  cases h with
  | no h => exact hf
  | yes b m kd' e hF hr => exact ⟨(hr.spec hf.wf hF).1, hf.ob.free hf.wf hF hr, hf.few, by rw [(hr.spec hf.wf hF).2.1]; exact hf.len⟩
theorem Fine.fresh (n : Nat) (h1 : 1 ≤ n) (h2 : n ≤ 256) : Fine (zeros (64 * n)) (freshK n) [] := ⟨freshK_wf n h1 h2, OB.fresh n h1, by simp, by rw [zeros_length, freshK_length]⟩

end Go.Proofs.Ytgpidokklhjfdaa

/-
  What is reached over the objects of a heap, and marks of it: plain facts. Marks are places of words; a mark's mathematics speaks of no program.
-/
namespace Go.Proofs.Ytgpidokklhjfdaa
open Go.RowKit

/-- Whether a word is marked. -/
def onM (xs : List Bool) (x : Int) : Bool := decide (0 ≤ x) && xs[x.toNat]?.getD false
theorem onM_nat (xs : List Bool) (k : Nat) : onM xs (k : Int) = xs[k]?.getD false := by unfold onM; simp
theorem onM_neg (xs : List Bool) {x : Int} (h : x < 0) : onM xs x = false := by unfold onM; rw [decide_eq_false (by omega)]; rfl
theorem onM_lt {xs : List Bool} {x : Int} (h : onM xs x = true) : 0 ≤ x ∧ x.toNat < xs.length := by
  unfold onM at h
  simp at h
  refine ⟨h.1, ?_⟩
  rcases Nat.lt_or_ge x.toNat xs.length with e | e
  · exact e
  · have := h.2; rw [List.getElem?_eq_none e] at this; simp at this
theorem onM_set (xs : List Bool) (b : Nat) (h : b < xs.length) (y : Int) : onM (xs.set b true) y = (decide (y = (b : Int)) || onM xs y) := by
  by_cases h0 : 0 ≤ y
  · obtain ⟨k, rfl⟩ := Int.eq_ofNat_of_zero_le h0
    rw [onM_nat, onM_nat]
    by_cases e : k = b
    · subst e; rw [bset_same _ _ _ h]; simp
    · rw [bset_other _ _ _ _ (fun e' => e e'.symm), decide_eq_false (by omega)]; rfl
  · rw [onM_neg _ (by omega), onM_neg _ (by omega), decide_eq_false (by omega)]; rfl
theorem onM_offs (n : Nat) (x : Int) : onM (offs n) x = false := by unfold onM; rw [offs_get]; simp
theorem onM_ext {xs ys : List Bool} (hl : xs.length = ys.length) (h : ∀ x, onM xs x = true ↔ onM ys x = true) : xs = ys := by
  refine beq_of_getD hl (fun t => ?_)
  have h1 := h (t : Int)
  rw [onM_nat, onM_nat] at h1
  cases e1 : xs[t]?.getD false <;> cases e2 : ys[t]?.getD false <;> simp_all

section
variable {kd : List PK} {ws : List Int} {ds : List (Int × List Int)}
theorem At.same {a k c l k' c' l' : Int} {b m b' m' : Nat} {f f' : Bool} (h : At kd ws a b m k c l f) (g : At kd ws a b' m' k' c' l' f') : b = b' ∧ m = m' ∧ k = k' ∧ c = c' ∧ l = l' ∧ f = f' := by
  obtain ⟨e1, e2, e3⟩ := h
  obtain ⟨g1, g2, g3⟩ := g
  obtain rfl : b = b' := by omega
  rw [e2] at g2
  obtain ⟨_, _, p1, p2, p3, p4⟩ := e3.parts
  obtain ⟨_, _, q1, q2, q3, q4⟩ := g3.parts
  injection g2 with g2
  injection g2 with _ g2
  refine ⟨rfl, g2, p1.symm.trans q1, p2.symm.trans q2, p3.symm.trans q3, ?_⟩
  exact p4.symm.trans q4
theorem At.nat_ (a : Int) {b m : Nat} {k c l : Int} {f : Bool} (h : At kd ws a b m k c l f) (g : NotAt kd a) : False := by
  obtain ⟨rfl, e2, _⟩ := h
  exact g b m (by rw [find_nat]; exact e2) rfl
theorem refsT_one {a : Int} {L L' : List Int} (h : RefsT kd ws ds a L) (g : RefsT kd ws ds a L') : L = L' := by
  cases h with
  | none h =>
    cases g with
    | none g => rfl
    | plain b m i c l f _ g => exact (At.nat_ a g h).elim
    | refs b m c l f g => exact (At.nat_ a g h).elim
    | data b m c l f g => rfl
    | ref b m c l f g => exact (At.nat_ a g h).elim
  | plain b m i c l f _ h e1 e2 =>
    cases g with
    | none g => exact (At.nat_ a h g).elim
    | plain b' m' i' c' l' f' _ g e1' e2' =>
      obtain ⟨_, _, _, hc, hl, _⟩ := h.same g
      obtain rfl : i = i' := by omega
      rw [e2] at e2'
      injection e2' with e
      injection e
    | refs b' m' c' l' f' g => obtain ⟨_, _, hk, _⟩ := h.same g; omega
    | data b' m' c' l' f' g => obtain ⟨_, _, hk, _⟩ := h.same g; omega
    | ref b' m' c' l' f' g => obtain ⟨_, _, hk, _⟩ := h.same g; omega
  | refs b m c l f h =>
    cases g with
    | none g => exact (At.nat_ a h g).elim
    | plain b' m' i' c' l' f' _ g e1' e2' => obtain ⟨_, _, hk, _⟩ := h.same g; omega
    | refs b' m' c' l' f' g => obtain ⟨_, _, _, _, hl, _⟩ := h.same g; rw [hl]
    | data b' m' c' l' f' g => obtain ⟨_, _, hk, _⟩ := h.same g; omega
    | ref b' m' c' l' f' g => obtain ⟨_, _, hk, _⟩ := h.same g; omega
  | data b m c l f h =>
    cases g with
    | none g => rfl
    | plain b' m' i' c' l' f' _ g e1' e2' => obtain ⟨_, _, hk, _⟩ := h.same g; omega
    | refs b' m' c' l' f' g => obtain ⟨_, _, hk, _⟩ := h.same g; omega
    | data b' m' c' l' f' g => rfl
    | ref b' m' c' l' f' g => obtain ⟨_, _, hk, _⟩ := h.same g; omega
  | ref b m c l f h =>
    cases g with
    | none g => exact (At.nat_ a h g).elim
    | plain b' m' i' c' l' f' _ g e1' e2' => obtain ⟨_, _, hk, _⟩ := h.same g; omega
    | refs b' m' c' l' f' g => obtain ⟨_, _, hk, _⟩ := h.same g; omega
    | data b' m' c' l' f' g => obtain ⟨_, _, hk, _⟩ := h.same g; omega
    | ref b' m' c' l' f' g => rfl
theorem placeT_one {a i E E' : Int} {p p' : Nat} (h : PlaceT kd ws a i p E) (g : PlaceT kd ws a i p' E') : p = p' ∧ E = E' := by
  cases h with
  | none h =>
    cases g with
    | none g => exact ⟨rfl, rfl⟩
    | arg b m k c l f g _ => exact (At.nat_ a g h).elim
    | yes b m j k c l f g _ _ _ => exact (At.nat_ a g h).elim
  | arg b m k c l f h h2 =>
    cases g with
    | none g => exact (At.nat_ a h g).elim
    | arg b' m' k' c' l' f' g _ => exact ⟨rfl, rfl⟩
    | yes b' m' j k' c' l' f' g e1 e2 _ => obtain ⟨_, _, _, _, hl, _⟩ := h.same g; omega
  | yes b m j k c l f h h2 h3 h4 =>
    cases g with
    | none g => exact (At.nat_ a h g).elim
    | arg b' m' k' c' l' f' g e1 => obtain ⟨_, _, _, _, hl, _⟩ := h.same g; omega
    | yes b' m' j' k' c' l' f' g e1 e2 _ => obtain ⟨hb, _, _, _, hl, _⟩ := h.same g; exact ⟨by omega, rfl⟩
theorem fieldT_one {a i N N' E E' : Int} (h : FieldT kd ws a i N E) (g : FieldT kd ws a i N' E') : N = N' ∧ E = E' := by
  cases h with
  | no E h e =>
    cases g with
    | no E' g e' => exact ⟨rfl, (placeT_one h g).2⟩
    | yes p g _ => have := (placeT_one h g).2; omega
  | yes p h _ =>
    cases g with
    | no E' g e' => have := (placeT_one h g).2; omega
    | yes p' g _ => rw [(placeT_one h g).1]; exact ⟨rfl, rfl⟩

/-- y stands in a field of x, of those that Refs tells. -/
def Led (kd : List PK) (ws : List Int) (ds : List (Int × List Int)) (x y : Int) : Prop := ∃ R i E, RefsT kd ws ds x R ∧ i ∈ R ∧ FieldT kd ws x i y E
/-- The objects among M, and all that they lead to. -/
inductive Reach (kd : List PK) (ws : List Int) (ds : List (Int × List Int)) (M : List Int) : Int → Prop
  | root {x : Int} : x ∈ M → isAt kd x = true → Reach kd ws ds M x
  | step {x y : Int} : Reach kd ws ds M x → Led kd ws ds x y → isAt kd y = true → Reach kd ws ds M y
theorem Reach.at' {M : List Int} {x : Int} (h : Reach kd ws ds M x) : isAt kd x = true := by
  cases h with
  | root _ h => exact h
  | step _ _ h => exact h
theorem Reach.mono {M M' : List Int} {x : Int} (h : Reach kd ws ds M x) (hM : ∀ y, y ∈ M → Reach kd ws ds M' y ∨ isAt kd y = false) : Reach kd ws ds M' x := by
  induction h with
  | root h1 h2 =>
    rcases hM _ h1 with e | e
    · exact e
    · rw [e] at h2; cases h2
  | step _ h1 h2 ih => exact .step ih h1 h2
/-- Marks that may be: objects alone, and all that they lead to. -/
structure MOk (kd : List PK) (ws : List Int) (ds : List (Int × List Int)) (xs : List Bool) : Prop where
  len : xs.length = ws.length
  obj : ∀ x, onM xs x = true → isAt kd x = true
  cl : ∀ x y, onM xs x = true → Led kd ws ds x y → isAt kd y = true → onM xs y = true
theorem MOk.offs : MOk kd ws ds (offs ws.length) := ⟨offs_length _, fun x h => (by rw [onM_offs] at h; cases h), fun x y h => (by rw [onM_offs] at h; cases h)⟩
/-- What Mark leaves. -/
structure MarkT (kd : List PK) (ws : List Int) (ds : List (Int × List Int)) (xs : List Bool) (M : List Int) (ys : List Bool) : Prop where
  len : ys.length = xs.length
  iff : ∀ x, onM ys x = true ↔ onM xs x = true ∨ Reach kd ws ds M x
theorem MarkT.ok {xs ys : List Bool} {M : List Int} (h : MarkT kd ws ds xs M ys) (hx : MOk kd ws ds xs) : MOk kd ws ds ys := by
  refine ⟨by rw [h.len, hx.len], fun x e => ?_, fun x y e h1 h2 => ?_⟩
  · rcases (h.iff x).1 e with e | e
    · exact hx.obj x e
    · exact e.at'
  · rcases (h.iff x).1 e with e | e
    · exact (h.iff y).2 (.inl (hx.cl x y e h1 h2))
    · exact (h.iff y).2 (.inr (.step e h1 h2))
theorem MarkT.one {xs ys zs : List Bool} {M : List Int} (h : MarkT kd ws ds xs M ys) (g : MarkT kd ws ds xs M zs) : ys = zs :=
  onM_ext (by rw [h.len, g.len]) (fun x => (h.iff x).trans (g.iff x).symm)

/-- A tracing under way, by a list that grows: T is what was found, its first i places are done. -/
structure RM (kd : List PK) (ws : List Int) (ds : List (Int × List Int)) (xs : List Bool) (M T : List Int) (i : Nat) (ys : List Bool) : Prop where
  len : ys.length = xs.length
  old : ∀ x, onM xs x = true → onM ys x = true
  sound : ∀ x, onM ys x = true → onM xs x = true ∨ Reach kd ws ds M x
  src : ∀ y, y ∈ T → isAt kd y = true → Reach kd ws ds M y
  root : ∀ y, y ∈ M → y ∈ T
  seen : ∀ t, t < i → isAt kd (T[t]?.getD 0) = true → onM ys (T[t]?.getD 0) = true
  exp : ∀ x, onM ys x = true → onM xs x = false → ∀ y, Led kd ws ds x y → y ∈ T
theorem RM.start (xs : List Bool) (M : List Int) : RM kd ws ds xs M M 0 xs :=
  ⟨rfl, fun _ h => h, fun _ h => .inl h, fun _ h e => .root h e, fun _ h => h, fun t ht => by omega, fun x h e => (by rw [h] at e; cases e)⟩
theorem RM.skip {xs ys : List Bool} {M T : List Int} {i : Nat} (h : RM kd ws ds xs M T i ys) (hi : isAt kd (T[i]?.getD 0) = true → onM ys (T[i]?.getD 0) = true) : RM kd ws ds xs M T (i + 1) ys :=
  ⟨h.len, h.old, h.sound, h.src, h.root, fun t ht e => by
    by_cases e' : t = i
    · subst e'; exact hi e
    · exact h.seen t (by omega) e, h.exp⟩
/-- What an object leads to, in the order of its fields. -/
def KidsT (kd : List PK) (ws : List Int) (R : List Int) (x : Int) (Z : List Int) : Prop := Z.length = R.length ∧ ∀ k, k < R.length → ∃ E, FieldT kd ws x (R[k]?.getD 0) (Z[k]?.getD 0) E
theorem RM.mark {xs ys : List Bool} {M T R Z : List Int} {i b : Nat} (h : RM kd ws ds xs M T i ys) (hT : i < T.length) (hb : T[i]?.getD 0 = (b : Int)) (hat : isAt kd (b : Int) = true) (hl : b < ys.length) (hR : RefsT kd ws ds b R) (hZ : KidsT kd ws R b Z) : RM kd ws ds xs M (T ++ Z) (i + 1) (ys.set b true) := by
  have hmem : (b : Int) ∈ T := by
    rw [← hb, List.getElem?_eq_getElem hT]; exact List.getElem_mem hT
  have hr : Reach kd ws ds M b := h.src b hmem hat
  refine ⟨by rw [List.length_set]; exact h.len, fun x e => ?_, fun x e => ?_, fun y hy e => ?_, fun y hy => List.mem_append.2 (.inl (h.root y hy)), fun t ht e => ?_, fun x e e2 y hy => ?_⟩
  · rw [onM_set _ _ hl, h.old x e]; simp
  · rw [onM_set _ _ hl] at e
    simp only [Bool.or_eq_true, decide_eq_true_eq] at e
    rcases e with rfl | e
    · exact .inr hr
    · exact h.sound x e
  · rcases List.mem_append.1 hy with hy | hy
    · exact h.src y hy e
    · obtain ⟨k, hk, rfl⟩ := List.getElem_of_mem hy
      obtain ⟨E, hE⟩ := hZ.2 k (by rw [← hZ.1]; exact hk)
      rw [List.getElem?_eq_getElem hk] at hE
      have hkR : k < R.length := by rw [← hZ.1]; exact hk
      refine .step hr ⟨R, _, E, hR, ?_, hE⟩ e
      rw [List.getElem?_eq_getElem hkR]; exact List.getElem_mem hkR
  · rw [onM_set _ _ hl]
    rw [List.getElem?_append_left (by omega)] at e ⊢
    by_cases e' : t = i
    · subst e'; rw [hb]; simp
    · rw [h.seen t (by omega) e]; simp
  · rw [onM_set _ _ hl] at e
    simp only [Bool.or_eq_true, decide_eq_true_eq] at e
    rcases e with rfl | e
    · obtain ⟨R', j, E, g1, g2, g3⟩ := hy
      obtain rfl := refsT_one hR g1
      obtain ⟨k, hk, rfl⟩ := List.getElem_of_mem g2
      obtain ⟨E', hE⟩ := hZ.2 k hk
      rw [List.getElem?_eq_getElem hk] at hE
      have := (fieldT_one hE g3).1
      have hkZ : k < Z.length := by rw [hZ.1]; exact hk
      rw [List.getElem?_eq_getElem hkZ] at this
      rw [← this]
      exact List.mem_append.2 (.inr (List.getElem_mem hkZ))
    · exact List.mem_append.2 (.inl (h.exp x e e2 y hy))
theorem RM.done {xs ys : List Bool} {M T : List Int} {i : Nat} (h : RM kd ws ds xs M T i ys) (hx : MOk kd ws ds xs) (hi : T.length ≤ i) : MarkT kd ws ds xs M ys := by
  have hin : ∀ y, y ∈ T → isAt kd y = true → onM ys y = true := fun y hy e => by
    obtain ⟨t, ht, rfl⟩ := List.getElem_of_mem hy
    have := h.seen t (by omega)
    rw [List.getElem?_eq_getElem ht] at this
    exact this e
  refine ⟨h.len, fun x => ⟨h.sound x, fun e => ?_⟩⟩
  rcases e with e | e
  · exact h.old x e
  · induction e with
    | root h1 h2 => exact hin _ (h.root _ h1) h2
    | step h1 h2 h3 ih =>
      rename_i x y
      cases e : onM xs x with
      | true => exact h.old y (hx.cl x y e h2 h3)
      | false => exact hin y (h.exp x ih e y h2) h3
end

end Go.Proofs.Ytgpidokklhjfdaa

/-
  A tracing under way by a bounded stack: what is marked, what is left for later, what stands on the stack, what is still to be looked at; how much of it there is. Plain facts.
-/
namespace Go.Proofs.Ytgpidokklhjfdaa
open Go.RowKit

section
variable {kd : List PK} {ws : List Int} {ds : List (Int × List Int)} {xs0 xs ls : List Bool} {M L P R Z : List Int}
/-- A tracing from marks xs0 and addresses M: xs is marked, ls is left for later, L is on the stack, P is still to be looked at. -/
structure TR (kd : List PK) (ws : List Int) (ds : List (Int × List Int)) (xs0 : List Bool) (M : List Int) (xs ls : List Bool) (L P : List Int) : Prop where
  len : xs.length = xs0.length
  len2 : ls.length = xs0.length
  old : ∀ x, onM xs0 x = true → onM xs x = true
  sound : ∀ x, onM xs x = true → onM xs0 x = true ∨ Reach kd ws ds M x
  src : ∀ y, y ∈ P → isAt kd y = true → onM xs0 y = true ∨ Reach kd ws ds M y
  lft : ∀ x, onM ls x = true → onM xs x = true
  stk : ∀ x, x ∈ L → onM xs x = true
  root : ∀ y, y ∈ M → isAt kd y = true → onM xs y = true ∨ y ∈ P
  cl : ∀ x y, onM xs x = true → onM ls x = false → x ∉ L → Led kd ws ds x y → isAt kd y = true → onM xs y = true ∨ y ∈ P
theorem TR.start : TR kd ws ds xs0 M xs0 xs0 [] M :=
  ⟨rfl, rfl, fun _ h => h, fun _ h => .inl h, fun _ h e => .inr (.root h e), fun _ h => h, fun _ h => (by simp at h), fun _ h _ => .inr h, fun x y h e => (by rw [h] at e; cases e)⟩
theorem TR.skip {y : Int} (h : TR kd ws ds xs0 M xs ls L (y :: P)) (hy : isAt kd y = true → onM xs y = true) : TR kd ws ds xs0 M xs ls L P := by
  have key : ∀ z, isAt kd z = true → (onM xs z = true ∨ z ∈ y :: P) → onM xs z = true ∨ z ∈ P := by
    intro z hz e
    rcases e with e | e
    · exact .inl e
    · rcases List.mem_cons.1 e with rfl | e
      · exact .inl (hy hz)
      · exact .inr e
  exact ⟨h.len, h.len2, h.old, h.sound, fun z hz => h.src z (List.mem_cons_of_mem _ hz), h.lft, h.stk, fun z hz e => key z e (h.root z hz e), fun x z h1 h2 h3 h4 h5 => key z h5 (h.cl x z h1 h2 h3 h4 h5)⟩
theorem bset_on {b : Nat} (hb : b < xs.length) (x : Int) : onM (xs.set b true) x = true ↔ x = (b : Int) ∨ onM xs x = true := by
  rw [onM_set _ _ hb]; simp
theorem TR.put {b : Nat} (h : TR kd ws ds xs0 M xs ls L ((b : Int) :: P)) (hat : isAt kd (b : Int) = true) (hb : b < xs.length) : TR kd ws ds xs0 M (xs.set b true) ls (L ++ [(b : Int)]) P := by
  have key : ∀ z, (onM xs z = true ∨ z ∈ (b : Int) :: P) → onM (xs.set b true) z = true ∨ z ∈ P := by
    intro z e
    rw [bset_on hb]
    rcases e with e | e
    · exact .inl (.inr e)
    · rcases List.mem_cons.1 e with rfl | e
      · exact .inl (.inl rfl)
      · exact .inr e
  refine ⟨by rw [List.length_set]; exact h.len, h.len2, fun x e => (bset_on hb x).2 (.inr (h.old x e)), fun x e => ?_, fun z hz => h.src z (List.mem_cons_of_mem _ hz), fun x e => (bset_on hb x).2 (.inr (h.lft x e)), fun x e => ?_, fun z hz e => key z (h.root z hz e), fun x z h1 h2 h3 h4 h5 => ?_⟩
  · rcases (bset_on hb x).1 e with rfl | e
    · exact h.src _ (by simp) hat
    · exact h.sound x e
  · rcases List.mem_append.1 e with e | e
    · exact (bset_on hb x).2 (.inr (h.stk x e))
    · exact (bset_on hb x).2 (.inl (by simpa using e))
  · rcases (bset_on hb x).1 h1 with rfl | h1
    · exact absurd (List.mem_append.2 (.inr (by simp))) h3
    · exact key z (h.cl x z h1 h2 (fun e => h3 (List.mem_append.2 (.inl e))) h4 h5)
theorem TR.over {b : Nat} (h : TR kd ws ds xs0 M xs ls L ((b : Int) :: P)) (hat : isAt kd (b : Int) = true) (hb : b < xs.length) : TR kd ws ds xs0 M (xs.set b true) (ls.set b true) L P := by
  have hb2 : b < ls.length := by rw [h.len2, ← h.len]; exact hb
  have key : ∀ z, (onM xs z = true ∨ z ∈ (b : Int) :: P) → onM (xs.set b true) z = true ∨ z ∈ P := by
    intro z e
    rw [bset_on hb]
    rcases e with e | e
    · exact .inl (.inr e)
    · rcases List.mem_cons.1 e with rfl | e
      · exact .inl (.inl rfl)
      · exact .inr e
  refine ⟨by rw [List.length_set]; exact h.len, by rw [List.length_set]; exact h.len2, fun x e => (bset_on hb x).2 (.inr (h.old x e)), fun x e => ?_, fun z hz => h.src z (List.mem_cons_of_mem _ hz), fun x e => ?_, fun x e => (bset_on hb x).2 (.inr (h.stk x e)), fun z hz e => key z (h.root z hz e), fun x z h1 h2 h3 h4 h5 => ?_⟩
  · rcases (bset_on hb x).1 e with rfl | e
    · exact h.src _ (by simp) hat
    · exact h.sound x e
  · rcases (bset_on hb2 x).1 e with e | e
    · exact (bset_on hb x).2 (.inl e)
    · exact (bset_on hb x).2 (.inr (h.lft x e))
  · have hne : ¬ (x = (b : Int) ∨ onM ls x = true) := fun e => by rw [(bset_on hb2 x).2 e] at h2; cases h2
    rcases (bset_on hb x).1 h1 with e | h1
    · exact absurd (.inl e) hne
    · refine key z (h.cl x z h1 ?_ h3 h4 h5)
      cases e : onM ls x with
      | false => rfl
      | true => exact absurd (.inr e) hne
theorem KidsT.led {x y : Int} (hR : RefsT kd ws ds x R) (hZ : KidsT kd ws R x Z) (h : Led kd ws ds x y) : y ∈ Z := by
  obtain ⟨R', j, E, g1, g2, g3⟩ := h
  obtain rfl := refsT_one hR g1
  obtain ⟨k, hk, rfl⟩ := List.getElem_of_mem g2
  obtain ⟨E', hE⟩ := hZ.2 k hk
  rw [List.getElem?_eq_getElem hk] at hE
  have := (fieldT_one hE g3).1
  have hkZ : k < Z.length := by rw [hZ.1]; exact hk
  rw [List.getElem?_eq_getElem hkZ] at this
  rw [← this]
  exact List.getElem_mem hkZ
theorem KidsT.of {x y : Int} (hR : RefsT kd ws ds x R) (hZ : KidsT kd ws R x Z) (h : y ∈ Z) : Led kd ws ds x y := by
  obtain ⟨k, hk, rfl⟩ := List.getElem_of_mem h
  obtain ⟨E, hE⟩ := hZ.2 k (by rw [← hZ.1]; exact hk)
  rw [List.getElem?_eq_getElem hk] at hE
  have hkR : k < R.length := by rw [← hZ.1]; exact hk
  refine ⟨R, _, E, hR, ?_, hE⟩
  rw [List.getElem?_eq_getElem hkR]; exact List.getElem_mem hkR
theorem TR.led {x y : Int} (h : TR kd ws ds xs0 M xs ls L P) (hx : MOk kd ws ds xs0) (h1 : onM xs x = true) (h2 : Led kd ws ds x y) (h3 : isAt kd y = true) : onM xs0 y = true ∨ Reach kd ws ds M y := by
  rcases h.sound x h1 with e | e
  · exact .inl (hx.cl x y e h2 h3)
  · exact .inr (.step e h2 h3)
theorem TR.kids {x : Int} (h : TR kd ws ds xs0 M xs ls (L ++ [x]) []) (hx : MOk kd ws ds xs0) (hR : RefsT kd ws ds x R) (hZ : KidsT kd ws R x Z) : TR kd ws ds xs0 M xs ls L Z := by
  refine ⟨h.len, h.len2, h.old, h.sound, fun y hy e => h.led hx (h.stk x (by simp)) (KidsT.of hR hZ hy) e, h.lft, fun y e => h.stk y (List.mem_append.2 (.inl e)), fun y hy e => ?_, fun z y h1 h2 h3 h4 h5 => ?_⟩
  · rcases h.root y hy e with e | e
    · exact .inl e
    · simp at e
  · by_cases e : z = x
    · subst e; exact .inr (KidsT.led hR hZ h4)
    · rcases h.cl z y h1 h2 (by simp [h3, e]) h4 h5 with e | e
      · exact .inl e
      · simp at e
theorem boff_on {b : Nat} (hb : b < xs.length) (x : Int) : onM (xs.set b false) x = true ↔ x ≠ (b : Int) ∧ onM xs x = true := by
  by_cases h0 : 0 ≤ x
  · obtain ⟨k, rfl⟩ := Int.eq_ofNat_of_zero_le h0
    rw [onM_nat, onM_nat]
    by_cases e : k = b
    · subst e; rw [bset_same _ _ _ hb]; simp
    · rw [bset_other _ _ _ _ (fun e' => e e'.symm)]
      exact ⟨fun h => ⟨by omega, h⟩, fun h => h.2⟩
  · rw [onM_neg _ (by omega), onM_neg _ (by omega)]; simp
theorem TR.left {b : Nat} (h : TR kd ws ds xs0 M xs ls [] []) (hx : MOk kd ws ds xs0) (hb : onM ls (b : Int) = true) (hR : RefsT kd ws ds b R) (hZ : KidsT kd ws R b Z) : TR kd ws ds xs0 M xs (ls.set b false) [] Z := by
  have hl : b < ls.length := by have := (onM_lt hb).2; simpa using this
  refine ⟨h.len, by rw [List.length_set]; exact h.len2, h.old, h.sound, fun y hy e => h.led hx (h.lft _ hb) (KidsT.of hR hZ hy) e, fun x e => h.lft x ((boff_on hl x).1 e).2, fun y e => (by simp at e), fun y hy e => ?_, fun z y h1 h2 h3 h4 h5 => ?_⟩
  · rcases h.root y hy e with e | e
    · exact .inl e
    · simp at e
  · by_cases e : z = (b : Int)
    · subst e; exact .inr (KidsT.led hR hZ h4)
    · have : onM ls z = false := by
        cases e' : onM ls z with
        | false => rfl
        | true => rw [(boff_on hl z).2 ⟨e, e'⟩] at h2; cases h2
      rcases h.cl z y h1 this (by simp) h4 h5 with e | e
      · exact .inl e
      · simp at e
theorem TR.done (h : TR kd ws ds xs0 M xs ls [] []) (hl : ∀ x, onM ls x = false) : MarkT kd ws ds xs0 M xs := by
  refine ⟨h.len, fun x => ⟨h.sound x, fun e => ?_⟩⟩
  rcases e with e | e
  · exact h.old x e
  · induction e with
    | root h1 h2 =>
      rcases h.root _ h1 h2 with e | e
      · exact e
      · simp at e
    | step _ h2 h3 ih =>
      rcases h.cl _ _ ih (hl _) (by simp) h2 h3 with e | e
      · exact e
      · simp at e
theorem TR.mem {x : Int} (h : TR kd ws ds xs0 M xs ls L P) (hx : x ∈ L) : 0 ≤ x ∧ x.toNat < xs.length := onM_lt (h.stk x hx)
theorem kids_ex (hf : Fine ws kd ds) (R : List Int) (x : Int) : ∃ Z, KidsT kd ws R x Z := by
  refine ⟨R.map (fun i => (fieldT_ex hf x i).choose), by simp, fun k hk => ?_⟩
  obtain ⟨E, hE⟩ := (fieldT_ex hf x (R[k]?.getD 0)).choose_spec
  refine ⟨E, ?_⟩
  have : (R.map (fun i => (fieldT_ex hf x i).choose))[k]?.getD 0 = (fieldT_ex hf x (R[k]?.getD 0)).choose := by
    simp [hk]
  rw [this]
  exact hE

/-- How much is left to do. -/
def muT (xs ls : List Bool) (L : List Int) : Nat := 2 * (xs.length - cntA xs) + cntA ls + L.length
theorem muT_put {b : Nat} (hb : b < xs.length) (h : onM xs (b : Int) = false) (x : Int) : muT (xs.set b true) ls (L ++ [x]) + 1 = muT xs ls L := by
  have hc := cntA_set xs b hb
  rw [onM_nat] at h
  rw [h] at hc
  have := cntA_le (xs.set b true)
  rw [List.length_set] at this
  unfold muT
  rw [List.length_append, List.length_set]
  simp at hc ⊢
  omega
theorem muT_over {b : Nat} (hb : b < xs.length) (hb2 : b < ls.length) (h : onM xs (b : Int) = false) : muT (xs.set b true) (ls.set b true) L ≤ muT xs ls L := by
  have hc := cntA_set xs b hb
  rw [onM_nat] at h
  rw [h] at hc
  have := cntA_le (xs.set b true)
  rw [List.length_set] at this
  have h2 := cntA_set ls b hb2
  have h3 : cntA (ls.set b true) ≤ cntA ls + 1 := by rw [h2]; split <;> omega
  unfold muT
  rw [List.length_set]
  simp at hc ⊢
  omega
theorem muT_left {b : Nat} (hb : onM ls (b : Int) = true) : muT xs (ls.set b false) L + 1 = muT xs ls L := by
  have hl : b < ls.length := by have := (onM_lt hb).2; simpa using this
  rw [onM_nat] at hb
  have h1 := cntA_off ls b hl
  have h2 := cntA_pos ls b hl hb
  rw [hb] at h1
  unfold muT
  simp at h1
  omega
theorem muT_pop (x : Int) : muT xs ls L + 1 = muT xs ls (L ++ [x]) := by
  unfold muT; rw [List.length_append]; simp; omega

/-! ### The list of what is marked -/
def marksTo (xs : List Bool) (j : Nat) : List Int := ((List.range j).filter (fun i => xs[i]?.getD false)).map Int.ofNat
theorem marksTo_no {j : Nat} (h : xs[j]?.getD false = false) : marksTo xs (j + 1) = marksTo xs j := by
  unfold marksTo; rw [List.range_succ, List.filter_append]; simp [h]
theorem marksTo_yes {j : Nat} (h : xs[j]?.getD false = true) : marksTo xs (j + 1) = marksTo xs j ++ [(j : Int)] := by
  unfold marksTo; rw [List.range_succ, List.filter_append]; simp [h]
theorem marksTo_gap {a : Nat} : ∀ {b : Nat}, a ≤ b → (∀ t, a ≤ t → t < b → xs[t]?.getD false = false) → marksTo xs b = marksTo xs a
  | 0, h, _ => by obtain rfl : a = 0 := by omega
                  rfl
  | b + 1, h, g => by
    by_cases e : a = b + 1
    · subst e; rfl
    · rw [marksTo_no (g b (by omega) (by omega))]
      exact marksTo_gap (by omega) (fun t h1 h2 => g t h1 (by omega))
theorem marksTo_le (j : Nat) : (marksTo xs j).length ≤ j := by
  unfold marksTo; rw [List.length_map]
  exact Nat.le_trans (List.length_filter_le _ _) (by simp)
theorem marksTo_mem (j : Nat) (x : Int) : x ∈ marksTo xs j ↔ ∃ i : Nat, x = i ∧ i < j ∧ xs[i]?.getD false = true := by
  unfold marksTo
  rw [List.mem_map]
  constructor
  · rintro ⟨i, h, rfl⟩
    rw [List.mem_filter, List.mem_range] at h
    exact ⟨i, rfl, h.1, h.2⟩
  · rintro ⟨i, rfl, h1, h2⟩
    exact ⟨i, by rw [List.mem_filter, List.mem_range]; exact ⟨h1, h2⟩, rfl⟩
theorem marksTo_all (j : Nat) (hj : xs.length ≤ j) : marksTo xs j = marksTo xs xs.length :=
  marksTo_gap hj (fun t h1 _ => by rw [List.getElem?_eq_none h1]; rfl)
end

end Go.Proofs.Ytgpidokklhjfdaa

/-
  Memory in parts: what is said of a world and of the blocks that it owns; parts that share no block; what a call that turns one part leaves of the others. It speaks of no program.
-/
namespace Go.Proofs.Ytgpidokklhjfdaa
open Go.RowKit

/-- Something that is said of a world, and of all blocks that it rests on. -/
structure Asn where
  at' : World → List Nat → Prop
  keep : ∀ {S F : List Nat} {w w' : World}, at' w F → Keep S w w' → (∀ k, k ∈ F → k ∉ S) → at' w' F
  lt : ∀ {F : List Nat} {w : World}, at' w F → ∀ k, k ∈ F → k < w.heap.size

/-- What a call has turned: blocks of F alone; what it owns then are of F, or new. -/
structure Upd (w w' : World) (F F' : List Nat) : Prop where
  keep : Keep F w w'
  grow : ∀ k, k ∈ F' → k ∈ F ∨ w.heap.size ≤ k

theorem Upd.refl {w w' : World} {F : List Nat} (K : Keep [] w w') : Upd w w' F F := ⟨K.mono (by simp), fun _ h => .inl h⟩
theorem Upd.trans {a b c : World} {F G H : List Nat} (h : Upd a b F G) (k : Upd b c G H) : Upd a c F H := by
  refine ⟨⟨k.keep.os.trans h.keep.os, k.keep.tape.trans h.keep.tape, k.keep.output.trans h.keep.output, Nat.le_trans h.keep.size k.keep.size, fun i hi hF => ?_⟩, fun i hi => ?_⟩
  · rw [k.keep.block i (Nat.lt_of_lt_of_le hi h.keep.size) (fun e => ?_), h.keep.block i hi hF]
    rcases h.grow i e with e | e
    · exact hF e
    · omega
  · rcases k.grow i hi with e | e
    · exact h.grow i e
    · exact .inr (Nat.le_trans h.keep.size e)
theorem Upd.mono {w w' : World} {F F' G : List Nat} (h : Upd w w' F F') (hS : ∀ k, k ∈ F → k ∈ G) : Upd w w' G F' := ⟨h.keep.mono hS, fun k hk => (h.grow k hk).imp (hS k) id⟩

/-- One block, known whole. -/
def blockA (b : Nat) (o : Obj) : Asn where
  at' w F := F = [b] ∧ w.heap[b]? = some o
  keep := fun h K hS => ⟨h.1, K.blk h.2 (hS _ (by rw [h.1]; simp))⟩
  lt := fun h k hk => by rw [h.1] at hk; simp at hk; subst hk; exact lt_of_block h.2

/-- Two parts that share no block. -/
def Asn.star (A B : Asn) : Asn where
  at' w F := ∃ F1 F2, (∀ k, k ∈ F ↔ k ∈ F1 ∨ k ∈ F2) ∧ A.at' w F1 ∧ B.at' w F2 ∧ ∀ k, k ∈ F1 → k ∉ F2
  keep := fun h K hS => by
    obtain ⟨F1, F2, hF, h1, h2, hd⟩ := h
    exact ⟨F1, F2, hF, A.keep h1 K (fun k hk => hS k ((hF k).2 (.inl hk))), B.keep h2 K (fun k hk => hS k ((hF k).2 (.inr hk))), hd⟩
  lt := fun h k hk => by
    obtain ⟨F1, F2, hF, h1, h2, hd⟩ := h
    rcases (hF k).1 hk with e | e
    · exact A.lt h1 k e
    · exact B.lt h2 k e

theorem star_comm {A B : Asn} {w : World} {F : List Nat} (h : (A.star B).at' w F) : (B.star A).at' w F := by
  obtain ⟨F1, F2, hF, h1, h2, hd⟩ := h
  exact ⟨F2, F1, fun k => (hF k).trans ⟨Or.symm, Or.symm⟩, h2, h1, fun k e1 e2 => hd k e2 e1⟩
theorem star_assoc {A B C : Asn} {w : World} {F : List Nat} (h : ((A.star B).star C).at' w F) : (A.star (B.star C)).at' w F := by
  obtain ⟨F12, F3, hF, ⟨F1, F2, hF', h1, h2, hd'⟩, h3, hd⟩ := h
  refine ⟨F1, F2 ++ F3, fun k => ?_, h1, ⟨F2, F3, fun k => by simp, h2, h3, fun k e => hd k ((hF' k).2 (.inr e))⟩, fun k e => ?_⟩
  · rw [hF, hF', List.mem_append, or_assoc]
  · rw [List.mem_append]
    rintro (e' | e')
    · exact hd' k e e'
    · exact hd k ((hF' k).2 (.inl e)) e'
theorem star_assoc' {A B C : Asn} {w : World} {F : List Nat} (h : (A.star (B.star C)).at' w F) : ((A.star B).star C).at' w F := by
  obtain ⟨F1, F23, hF, h1, ⟨F2, F3, hF', h2, h3, hd'⟩, hd⟩ := h
  refine ⟨F1 ++ F2, F3, fun k => ?_, ⟨F1, F2, fun k => by simp, h1, h2, fun k e e' => hd k e ((hF' k).2 (.inl e'))⟩, h3, fun k e e' => ?_⟩
  · rw [hF, hF', List.mem_append, or_assoc]
  · rw [List.mem_append] at e
    rcases e with e | e
    · exact hd k e ((hF' k).2 (.inr e'))
    · exact hd' k e e'

/-- The first part is turned. -/
theorem star_left {A' B : Asn} {w w' : World} {F F1 F2 F1' : List Nat} (hF : ∀ k, k ∈ F ↔ k ∈ F1 ∨ k ∈ F2) (hd : ∀ k, k ∈ F1 → k ∉ F2) (hB : B.at' w F2) (h : A'.at' w' F1') (u : Upd w w' F1 F1') : ∃ F', (A'.star B).at' w' F' ∧ Upd w w' F F' := by
  have hlt := B.lt hB
  refine ⟨F1' ++ F2, ⟨F1', F2, fun k => by simp, h, B.keep hB u.keep (fun k e e' => hd k e' e), fun k e e' => ?_⟩, u.keep.mono (fun k e => (hF k).2 (.inl e)), fun k e => ?_⟩
  · rcases u.grow k e with g | g
    · exact hd k g e'
    · have := hlt k e'; omega
  · rw [List.mem_append] at e
    rcases e with e | e
    · exact (u.grow k e).imp (fun g => (hF k).2 (.inl g)) id
    · exact .inl ((hF k).2 (.inr e))
/-- The second part is turned. -/
theorem star_right {A B' : Asn} {w w' : World} {F F1 F2 F2' : List Nat} (hF : ∀ k, k ∈ F ↔ k ∈ F1 ∨ k ∈ F2) (hd : ∀ k, k ∈ F1 → k ∉ F2) (hA : A.at' w F1) (h : B'.at' w' F2') (u : Upd w w' F2 F2') : ∃ F', (A.star B').at' w' F' ∧ Upd w w' F F' := by
  obtain ⟨F', h1, h2⟩ := star_left (A' := B') (B := A) (F := F) (fun k => (hF k).trans ⟨Or.symm, Or.symm⟩) (fun k e e' => hd k e' e) hA h u
  exact ⟨F', star_comm h1, h2⟩
/-- A part that is new. -/
theorem star_new {A B : Asn} {w w' : World} {F G : List Nat} (hA : A.at' w F) (K : Keep [] w w') (hB : B.at' w' G) (hG : ∀ k, k ∈ G → w.heap.size ≤ k) : ∃ F', (A.star B).at' w' F' ∧ Upd w w' F F' := by
  refine ⟨F ++ G, ⟨F, G, fun k => by simp, A.keep hA K (by simp), hB, fun k e e' => ?_⟩, K.mono (by simp), fun k e => ?_⟩
  · have := A.lt hA k e
    have := hG k e'
    omega
  · rw [List.mem_append] at e
    exact e.imp id (hG k)

/-- What is owned in w, grown out of F0 in w0: blocks of F0 alone have been turned since, and what is owned are of F0, or new. With no F0 all of it is younger than w0, and all that is older is as it was. -/
def Has (w0 : World) (F0 : List Nat) (A : Asn) (w : World) : Prop := ∃ F, A.at' w F ∧ Upd w0 w F0 F
theorem Has.start {w : World} {A : Asn} {F : List Nat} (h : A.at' w F) : Has w F A w := ⟨F, h, Upd.refl (Keep.refl _ _)⟩
theorem Has.K {w0 w : World} {A : Asn} {F0 : List Nat} (h : Has w0 F0 A w) : Keep F0 w0 w := by obtain ⟨F, _, h⟩ := h; exact h.keep
theorem Has.keep0 {w0 w w' : World} {A : Asn} {F0 : List Nat} (h : Has w0 F0 A w) (K : Keep [] w w') : Has w0 F0 A w' := by
  obtain ⟨F, h1, h2⟩ := h
  exact ⟨F, A.keep h1 K (by simp), h2.trans (Upd.refl K)⟩
theorem Has.map {w0 w : World} {A B : Asn} {F0 : List Nat} (h : Has w0 F0 A w) (f : ∀ F, A.at' w F → B.at' w F) : Has w0 F0 B w := by
  obtain ⟨F, h1, h2⟩ := h
  exact ⟨F, f F h1, h2⟩
theorem Has.comm {w0 w : World} {A B : Asn} {F0 : List Nat} (h : Has w0 F0 (A.star B) w) : Has w0 F0 (B.star A) w := h.map (fun _ => star_comm)
theorem Has.assoc {w0 w : World} {A B C : Asn} {F0 : List Nat} (h : Has w0 F0 ((A.star B).star C) w) : Has w0 F0 (A.star (B.star C)) w := h.map (fun _ => star_assoc)
theorem Has.assoc' {w0 w : World} {A B C : Asn} {F0 : List Nat} (h : Has w0 F0 (A.star (B.star C)) w) : Has w0 F0 ((A.star B).star C) w := h.map (fun _ => star_assoc')
theorem Has.fst {w0 w : World} {A B : Asn} {F0 : List Nat} (h : Has w0 F0 (A.star B) w) : Has w0 F0 A w := by
  obtain ⟨F, ⟨F1, F2, hF, h1, _⟩, h2⟩ := h
  exact ⟨F1, h1, h2.keep, fun k e => h2.grow k ((hF k).2 (.inl e))⟩
theorem Has.snd {w0 w : World} {A B : Asn} {F0 : List Nat} (h : Has w0 F0 (A.star B) w) : Has w0 F0 B w := h.comm.fst
theorem Has.upd {w0 w w' : World} {A' : Asn} {F0 F F' : List Nat} (u : Upd w0 w F0 F) (h : A'.at' w' F') (v : Upd w w' F F') : Has w0 F0 A' w' := ⟨F', h, u.trans v⟩
theorem Has.then {w0 w w' : World} {A A' : Asn} {F0 : List Nat} (h : Has w0 F0 A w) (g : ∀ F, A.at' w F → Has w F A' w') : Has w0 F0 A' w' := by
  obtain ⟨F, h1, h2⟩ := h
  obtain ⟨F', h3, h4⟩ := g F h1
  exact ⟨F', h3, h2.trans h4⟩
/-- Something new beside it. -/
theorem Has.more {w0 w w' : World} {A B : Asn} {F0 G : List Nat} (h : Has w0 F0 A w) (K : Keep [] w w') (hB : B.at' w' G) (hG : ∀ k, k ∈ G → w.heap.size ≤ k) : Has w0 F0 (A.star B) w' := by
  obtain ⟨F, h1, h2⟩ := h
  obtain ⟨F', g1, g2⟩ := star_new h1 K hB hG
  exact ⟨F', g1, h2.trans g2⟩
/-- The first part is turned. -/
theorem Has.left {w0 w w' : World} {A A' B : Asn} {F0 : List Nat} (h : Has w0 F0 (A.star B) w) (g : ∀ F, A.at' w F → Has w F A' w') : Has w0 F0 (A'.star B) w' := by
  obtain ⟨F, ⟨F1, F2, hF, h1, h2, hd⟩, u⟩ := h
  obtain ⟨F', h3, h4⟩ := g F1 h1
  obtain ⟨F'', h5, h6⟩ := star_left hF hd h2 h3 h4
  exact ⟨F'', h5, u.trans h6⟩
/-- A fact that holds of a part, wherever it lies. -/
theorem Has.fact {w0 w : World} {A : Asn} {F0 : List Nat} {p : Prop} (h : Has w0 F0 A w) (g : ∀ F, A.at' w F → p) : p := by
  obtain ⟨F, h1, _⟩ := h
  exact g F h1

/-- A call that turns what it is told of. -/
theorem has_call {P : Program} {f : FuncId} {args : Array Value} {w0 w : World} {A A' : Asn} {F0 : List Nat} {Q : Ending → World → Prop} (h : Has w0 F0 A w) (hc : ∀ F, Has w F A w → Calls P f args w fun e w' => Q e w' ∧ Has w F A' w') :
    Calls P f args w fun e w' => Q e w' ∧ Has w0 F0 A' w' := by
  obtain ⟨F, h1, h2⟩ := h
  refine (hc F (Has.start h1)).mono ?_
  rintro e w' ⟨hq, F', g1, g2⟩
  exact ⟨hq, F', g1, h2.trans g2⟩
/-- A call that turns the first part alone. -/
theorem has_left {P : Program} {f : FuncId} {args : Array Value} {w0 w : World} {A A' B : Asn} {F0 : List Nat} {Q : Ending → World → Prop} (h : Has w0 F0 (A.star B) w) (hc : ∀ F, Has w F A w → Calls P f args w fun e w' => Q e w' ∧ Has w F A' w') :
    Calls P f args w fun e w' => Q e w' ∧ Has w0 F0 (A'.star B) w' := by
  obtain ⟨F, ⟨F1, F2, hF, h1, h2, hd⟩, u⟩ := h
  refine (hc F1 (Has.start h1)).mono ?_
  rintro e w' ⟨hq, F', g1, g2⟩
  obtain ⟨F'', h5, h6⟩ := star_left hF hd h2 g1 g2
  exact ⟨hq, F'', h5, u.trans h6⟩
theorem has_right {P : Program} {f : FuncId} {args : Array Value} {w0 w : World} {A B B' : Asn} {F0 : List Nat} {Q : Ending → World → Prop} (h : Has w0 F0 (A.star B) w) (hc : ∀ F, Has w F B w → Calls P f args w fun e w' => Q e w' ∧ Has w F B' w') :
    Calls P f args w fun e w' => Q e w' ∧ Has w0 F0 (A.star B') w' := by
  refine (has_left h.comm hc).mono ?_
  rintro e w' ⟨hq, h⟩
  exact ⟨hq, h.comm⟩
/-- A call that turns nothing of it. -/
theorem has_same {P : Program} {f : FuncId} {args : Array Value} {w0 w : World} {A : Asn} {F0 : List Nat} {Q : Ending → World → Prop} (h : Has w0 F0 A w) (hc : Calls P f args w fun e w' => Q e w' ∧ Keep [] w w') :
    Calls P f args w fun e w' => Q e w' ∧ Has w0 F0 A w' := by
  refine hc.mono ?_
  rintro e w' ⟨hq, hK⟩
  exact ⟨hq, h.keep0 hK⟩

end Go.Proofs.Ytgpidokklhjfdaa

/-
  New, Alloc and Free of package space.
-/
namespace Go.Proofs.Ytgpidokklhjfdaa
open Go.RowKit

theorem Try.infoPage : (Try.prog.info? 128).map (fun i => (i.zero, i.size, i.bytes)) = some (some (.pointer none), 1, 8) := by kernel_rfl

/-- A row of nils. -/
def nils (n : Nat) : List Value := List.replicate n (.pointer none)
theorem nils_made (n : Nat) : madeCells #[.pointer none] n = (nils n).toArray := by
  apply Array.toList_inj.1
  rw [toList_madeCells_one]
  simp [nils]
theorem nils_ptrs (n : Nat) (L : Lay) : nils n = ptrs L (freshK n) := by
  apply List.ext_getElem?
  intro q
  rcases Nat.lt_or_ge q n with hq | hq
  · rw [ptrs_get L (freshK n) q (by rw [freshK_length]; exact hq), freshK_at n q (by omega)]
    unfold nils
    rw [List.getElem?_replicate, if_pos hq]
    split <;> rfl
  · rw [List.getElem?_eq_none (by simpa [nils] using hq), List.getElem?_eq_none (by rw [ptrs_length, freshK_length]; exact hq)]

set_option maxHeartbeats 1000000 in
theorem snew_no (n : Int) (w : World) (h : ¬ (1 ≤ n ∧ n ≤ 256)) :
    Calls Try.prog 25 #[.int .i64 n] w fun e w' => e = .returned (.tuple #[.pointer none, .int .i64 1]) ∧ w = w' := by
  go_enter Try.func25, Try.ntmps25
  go_wp2_with (go_at_call 51; refine (new_no _ _ h).mono ?_; rintro e w' ⟨rfl, rfl⟩)
  go_ret2
  exact ⟨rfl, rfl⟩

/-- What New makes, whichever of its rows is made first. -/
theorem snew_is (w wz : World) (n sb ab ag pb b g gs gl : Nat) (hn : 1 ≤ n) (hA : IsArena wz ab ag (zeros (n * 64))) (hP : IsPages wz pb b g (fresh n)) (hd : wz.heap[sb]? = some (.cells #[.pointer (some ⟨ab, 0, none⟩), .pointer (some ⟨pb, 0, none⟩), .slice (some ⟨gs, 0, none⟩) n n, .slice (some ⟨gl, 0, none⟩) n n] 70 (0, 0)))
    (hs : wz.heap[gs]? = some (.cells (nils n).toArray 128 (0, 0))) (hl : Row wz 3 gl (zeros n)) (hK : Keep [] w wz)
    (g1 : w.heap.size ≤ ab ∧ w.heap.size ≤ ag ∧ w.heap.size ≤ pb ∧ w.heap.size ≤ b ∧ w.heap.size ≤ g ∧ w.heap.size ≤ gs ∧ w.heap.size ≤ gl ∧ w.heap.size ≤ sb)
    (ho : (ab < pb ∧ ab < b ∧ ab < g) ∧ (ag < pb ∧ ag < b ∧ ag < g) ∧ (pb < gs ∧ b < gs ∧ g < gs) ∧ (pb < gl ∧ b < gl ∧ g < gl) ∧ gs ≠ gl ∧ gs < sb ∧ gl < sb) :
    ∃ F, IsSpace wz sb F (zeros (64 * n)) (freshK n) ∧ Keep [] w wz ∧ sb ∈ F ∧ ∀ k, k ∈ F → w.heap.size ≤ k := by
  have n1 := hA.ne
  have n2 := hP.ne1
  have n3 := hP.ne2
  have n4 := hP.bits.ne
  have l1 := hA.lt
  have l2 := hP.lt
  have l3 := lt_of_block hd
  have l4 := lt_of_block hs
  have l5 := hl.lt
  let r : Nat → Nat := fun k => if k = sb then 0 else if k = ab then 1 else if k = ag then 2 else if k = pb then 3 else if k = b then 4 else if k = g then 5 else if k = gs then 6 else 7
  have none : ∀ p c xs, kat (freshK n) p ≠ .small c xs := by
    intro p c xs e
    rw [freshK_at n p hn] at e
    split at e <;> cases e
  refine ⟨[sb, ab, ag, pb, b, g, gs, gl], ⟨⟨ab, ag, pb, b, g, gs, gl, fun _ => (0, 0, 0), r⟩, ?_⟩, hK, by simp, fun k hk => ?_⟩
  · exact {
      head := by rw [freshK_length]; exact hd
      arena := by rw [Nat.mul_comm]; exact hA
      pages := by rw [freshK_taken n hn]; exact hP
      rowS := by rw [← nils_ptrs]; exact hs
      rowL := by rw [freshK_big n hn]; exact hl
      page := fun p c xs e => absurd e (none p c xs)
      len := by rw [zeros_length, freshK_length]
      r0 := if_pos rfl
      r1 := by show (if ab = sb then _ else if ab = ab then _ else _) = _; rw [if_neg (by omega), if_pos rfl]
      r2 := by show (if ag = sb then _ else if ag = ab then _ else if ag = ag then _ else _) = _; rw [if_neg (by omega), if_neg (by omega), if_pos rfl]
      r3 := by show r pb = _; simp only [r]; rw [if_neg (by omega), if_neg (by omega), if_neg (by omega), if_pos trivial]
      r4 := by show r b = _; simp only [r]; rw [if_neg (by omega), if_neg (by omega), if_neg (by omega), if_neg (by omega), if_pos trivial]
      r5 := by show r g = _; simp only [r]; rw [if_neg (by omega), if_neg (by omega), if_neg (by omega), if_neg (by omega), if_neg (by omega), if_pos trivial]
      r6 := by show r gs = _; simp only [r]; rw [if_neg (by omega), if_neg (by omega), if_neg (by omega), if_neg (by omega), if_neg (by omega), if_neg (by omega), if_pos trivial]
      r7 := by show r gl = _; simp only [r]; rw [if_neg (by omega), if_neg (by omega), if_neg (by omega), if_neg (by omega), if_neg (by omega), if_neg (by omega), if_neg (by omega)]
      rp := fun p c xs e => absurd e (none p c xs)
      f := by simp
      fp := fun p c xs e => absurd e (none p c xs)
      lt := by
        intro k hk
        simp only [List.mem_cons, List.not_mem_nil, or_false] at hk
        omega }
  · simp only [List.mem_cons, List.not_mem_nil, or_false] at hk
    omega

theorem three_new (w : World) (o1 o2 o3 : Obj) : (((w.alloc o1).alloc o2).alloc o3).drew.heap[w.heap.size]? = some o1 ∧ (((w.alloc o1).alloc o2).alloc o3).drew.heap[w.heap.size + 1]? = some o2 ∧
    (((w.alloc o1).alloc o2).alloc o3).drew.heap[w.heap.size + 1 + 1]? = some o3 ∧ Keep [] w (((w.alloc o1).alloc o2).alloc o3).drew := by
  have k1 := Keep.alloc [] w o1
  have k2 := Keep.alloc [] (w.alloc o1) o2
  have k3 := Keep.alloc [] ((w.alloc o1).alloc o2) o3
  have k4 := Keep.drew [] (((w.alloc o1).alloc o2).alloc o3)
  have e1 := heap_alloc_new w o1
  have e2 := heap_alloc_new (w.alloc o1) o2
  have e3 := heap_alloc_new ((w.alloc o1).alloc o2) o3
  have z1 : (w.alloc o1).heap.size = w.heap.size + 1 := by simp
  have z2 : ((w.alloc o1).alloc o2).heap.size = w.heap.size + 1 + 1 := by simp
  rw [z1] at e2
  rw [z2] at e3
  exact ⟨k4.blk (k3.blk (k2.blk e1 (by simp)) (by simp)) (by simp), k4.blk (k3.blk e2 (by simp)) (by simp), k4.blk e3 (by simp), ((k1.trans k2).trans k3).trans k4⟩
set_option maxHeartbeats 2000000 in
theorem snew_ok (n : Nat) (w : World) (h1 : 1 ≤ n) (h2 : n ≤ 256) :
    Calls Try.prog 25 #[.int .i64 n] w fun e w' => ∃ sb F, e = .returned (.tuple #[.pointer (some ⟨sb, 0, none⟩), .int .i64 0]) ∧ IsSpace w' sb F (zeros (64 * n)) (freshK n) ∧ Keep [] w w' ∧ sb ∈ F ∧ ∀ k, k ∈ F → w.heap.size ≤ k := by
  have hmk1 : ∀ w, (Instr.makeSlice 28 (.int .i64 (n : Int)) (.int .i64 (n : Int))).run Try.prog w = .ok (.slice (some ⟨w.heap.size, 0, none⟩) n n) (w.alloc (.cells (madeCells #[.int .i64 0] n) 3)) :=
    fun w => run_make_row' (P := Try.prog) 28 3 (.int .i64 0) 8 Try.underlying28 Try.infoInt rfl .i64 .i64 n (by omega) (by omega) w
  have hmk2 : ∀ w, (Instr.makeSlice 68 (.int .i64 (n : Int)) (.int .i64 (n : Int))).run Try.prog w = .ok (.slice (some ⟨w.heap.size, 0, none⟩) n n) (w.alloc (.cells (madeCells #[.pointer none] n) 128)) :=
    fun w => run_make_row' (P := Try.prog) 68 128 (.pointer none) 8 Try.underlying68 Try.infoPage rfl .i64 .i64 n (by omega) (by omega) w
  go_enter Try.func25, Try.ntmps25
  go_wp2_with (first | (go_at_call 51; refine (new_ok n _ h1 h2).mono ?_; rintro e w1 ⟨ab, ag, rfl, hA, hK1, hab, hag⟩) | (go_at_call 52; refine (pnew_ok n _ h1 h2).mono ?_; rintro e w2 ⟨pb, b, g, rfl, hP, hK2, hpb, hb, hg⟩))
  have hA2 := hA.keep hK2 (by simp) (by simp)
  have ltA := hA.lt
  have ltP := hP.lt
  have sz1 := hK1.size
  have sz2 := hK2.size
  have hK3 := hK1.trans hK2
  have hP2 := hP
  clear hA hP hK1 hK2
  have HA := (show Hid (∃ F, IsSpace (((w2.alloc (.cells (madeCells #[.pointer none] n) 128)).alloc (.cells (madeCells #[.int .i64 0] n) 3)).alloc (.cells #[.pointer (some ⟨ab, 0, none⟩), .pointer (some ⟨pb, 0, none⟩), .slice (some ⟨w2.heap.size, 0, none⟩) n n, .slice (some ⟨w2.heap.size + 1, 0, none⟩) n n] 70)).drew (w2.heap.size + 1 + 1) F (zeros (64 * n)) (freshK n) ∧ Keep [] w (((w2.alloc (.cells (madeCells #[.pointer none] n) 128)).alloc (.cells (madeCells #[.int .i64 0] n) 3)).alloc (.cells #[.pointer (some ⟨ab, 0, none⟩), .pointer (some ⟨pb, 0, none⟩), .slice (some ⟨w2.heap.size, 0, none⟩) n n, .slice (some ⟨w2.heap.size + 1, 0, none⟩) n n] 70)).drew ∧ w2.heap.size + 1 + 1 ∈ F ∧ ∀ k, k ∈ F → w.heap.size ≤ k) from by
    obtain ⟨e1, e2, e3, k⟩ := three_new w2 (.cells (madeCells #[.pointer none] n) 128) (.cells (madeCells #[.int .i64 0] n) 3) (.cells #[.pointer (some ⟨ab, 0, none⟩), .pointer (some ⟨pb, 0, none⟩), .slice (some ⟨w2.heap.size, 0, none⟩) n n, .slice (some ⟨w2.heap.size + 1, 0, none⟩) n n] 70)
    refine snew_is w _ n _ ab ag pb b g w2.heap.size (w2.heap.size + 1) h1 (hA2.keep k (by simp) (by simp)) (hP2.keep k (by simp) (by simp) (by simp)) e3 (by rw [← nils_made]; exact e1) ?_ (hK3.trans k) (by omega) (by omega)
    unfold Row; rw [← ints_made]; exact e2)
  have HB := (show Hid (∃ F, IsSpace (((w2.alloc (.cells (madeCells #[.int .i64 0] n) 3)).alloc (.cells (madeCells #[.pointer none] n) 128)).alloc (.cells #[.pointer (some ⟨ab, 0, none⟩), .pointer (some ⟨pb, 0, none⟩), .slice (some ⟨w2.heap.size + 1, 0, none⟩) n n, .slice (some ⟨w2.heap.size, 0, none⟩) n n] 70)).drew (w2.heap.size + 1 + 1) F (zeros (64 * n)) (freshK n) ∧ Keep [] w (((w2.alloc (.cells (madeCells #[.int .i64 0] n) 3)).alloc (.cells (madeCells #[.pointer none] n) 128)).alloc (.cells #[.pointer (some ⟨ab, 0, none⟩), .pointer (some ⟨pb, 0, none⟩), .slice (some ⟨w2.heap.size + 1, 0, none⟩) n n, .slice (some ⟨w2.heap.size, 0, none⟩) n n] 70)).drew ∧ w2.heap.size + 1 + 1 ∈ F ∧ ∀ k, k ∈ F → w.heap.size ≤ k) from by
    obtain ⟨e1, e2, e3, k⟩ := three_new w2 (.cells (madeCells #[.int .i64 0] n) 3) (.cells (madeCells #[.pointer none] n) 128) (.cells #[.pointer (some ⟨ab, 0, none⟩), .pointer (some ⟨pb, 0, none⟩), .slice (some ⟨w2.heap.size + 1, 0, none⟩) n n, .slice (some ⟨w2.heap.size, 0, none⟩) n n] 70)
    refine snew_is w _ n _ ab ag pb b g (w2.heap.size + 1) w2.heap.size h1 (hA2.keep k (by simp) (by simp)) (hP2.keep k (by simp) (by simp) (by simp)) e3 (by rw [← nils_made]; exact e2) ?_ (hK3.trans k) (by omega) (by omega)
    unfold Row; rw [← ints_made]; exact e1)
  clear hA2 hP2 hK3
  go_region
  all_goals
    go_wp2
    go_ret2
    first
    | (obtain ⟨F, hF⟩ := HA.out; exact ⟨_, F, rfl, hF⟩)
    | (obtain ⟨F, hF⟩ := HB.out; exact ⟨_, F, rfl, hF⟩)

end Go.Proofs.Ytgpidokklhjfdaa

/-
  Alloc of package space.
-/
namespace Go.Proofs.Ytgpidokklhjfdaa
open Go.RowKit

/-- What a space has in memory later on lay there, or is new. -/
def Grows (w : World) (F F' : List Nat) : Prop := ∀ k, k ∈ F' → k ∈ F ∨ w.heap.size ≤ k
theorem Grows.refl (w : World) (F : List Nat) : Grows w F F := fun _ h => .inl h

/-- Page j, as one looks for room of class c. -/
theorem SpAt.look {F : List Nat} {w : World} {sb : Nat} {L : Lay} {ws : List Int} {ts : List Bool} {kd : List PK} (h : SpAt w sb L F ws ts kd) (hw : WF kd) {c j : Nat} (hc : c < 5) (hj : j < kd.length) :
    (w.cell? ⟨L.gs, j, none⟩ = some (.pointer none) ∧ (kat kd j).has c = false) ∨
    (∃ (q1 b g s : Nat) (xs : List Bool), w.cell? ⟨L.gs, j, none⟩ = some (.pointer (some ⟨q1, 0, none⟩)) ∧ IsPage w q1 b g s xs ∧ s ≠ sz c ∧ (kat kd j).has c = false) ∨
    (∃ (q1 b g : Nat) (xs : List Bool), w.cell? ⟨L.gs, j, none⟩ = some (.pointer (some ⟨q1, 0, none⟩)) ∧ IsPage w q1 b g (sz c : Nat) xs ∧ (kat kd j).has c = !allB xs) := by
  have hcs := h.cs hj
  cases e : kat kd j with
  | small d xs =>
    rw [e] at hcs
    obtain ⟨hd, _, _⟩ := hw.small j d xs e
    have hP := h.page j d xs e
    rw [(sz_facts d hd).1] at hP
    by_cases hdc : d = c
    · subst hdc
      exact .inr (.inr ⟨_, _, _, xs, hcs, hP, by simp [PK.has]⟩)
    · refine .inr (.inl ⟨_, _, _, _, xs, hcs, hP, fun e' => hdc (sz_inj d c hd hc e'), by simp [PK.has, hdc]⟩)
  | _ => rw [e] at hcs; exact .inl ⟨hcs, rfl⟩

theorem bool_no {a b : Bool} (h : a = false) (e : a = !b) : b = true := by subst h; cases b <;> simp at e ⊢
theorem bool_yes {a b : Bool} (h : a = true) (e : a = !b) : b = false := by subst h; cases b <;> simp at e ⊢
theorem sizes_at (c : Nat) (h : c < 5) : sizesL[c]?.getD 0 = (sz c : Nat) := (sz_facts c h).1

set_option maxHeartbeats 2000000 in
theorem room_old (sb c p : Nat) (L : Lay) (F : List Nat) (ws : List Int) (ts : List Bool) (kd : List PK) (w : World) (h : SpAt w sb L F ws ts kd) (hw : WF kd) (hc : c < 5) (hp : nextR (hasL c kd) 0 true = p) :
    Calls Try.prog 83 #[.pointer (some ⟨sb, 0, none⟩), .int .i64 c] w fun e w' => e = .returned (.tuple #[.int .i64 p, .int .i64 0]) ∧ Keep [] w w' := by
  obtain ⟨hpl, hpv, hpn⟩ : p < kd.length ∧ (kat kd p).has c = true ∧ ∀ t, t < p → (kat kd t).has c = false := by
    rcases nextR_spec (hasL c kd) true _ 0 rfl with ⟨e, _⟩ | ⟨j, e, _, e2, e3, e4⟩
    · rw [hp] at e; omega
    · obtain rfl : p = j := by rw [hp] at e; omega
      rw [hasL_get] at e3
      rw [hasL_length] at e2
      refine ⟨e2, e3, fun t ht => ?_⟩
      have := e4 t (by omega) ht
      rw [hasL_get] at this
      simpa using this
  obtain ⟨s, hs⟩ : ∃ s, sz c = s := ⟨_, rfl⟩
  have HSZ := (show Hid (sz c = s) from hs)
  have HSL := (show Hid (sizesL[c]?.getD 0 = (s : Nat)) from by show _ = _; rw [sizes_at c hc, hs])
  have hs2 : 2 ≤ s := by rw [← hs]; exact (sz_facts c hc).2.2.1
  obtain ⟨n, hn⟩ : ∃ n, kd.length = n := ⟨_, rfl⟩
  have HN := (show Hid (kd.length = n) from hn)
  have hn2 : n ≤ 256 := by rw [← hn]; exact hw.len2
  rw [hn] at hpl
  have HW := (show Hid (WF kd) from hw)
  have HS := (show Hid (SpAt w sb L F ws ts kd) from h)
  have HPV := (show Hid ((kat kd p).has c = true) from hpv)
  have HPN := (show Hid (∀ t, t < p → (kat kd t).has c = false) from hpn)
  clear hs hn hw h hp hpv hpn
  go_enter Try.func83, Try.ntmps83
  go_wp2_with (go_at_call 72; refine (sizes_any _).mono ?_; rintro e w1 ⟨gz, rfl, hr, hK, hgz⟩; have hx := hr.cell (i := c) hc; rw [HSL.out] at hx; have hS1 := HS.out.keep0 hK; have hc2 := hS1.c2; rw [HN.out] at hc2)
  have HS1 := (show Hid (SpAt w1 sb L F ws ts kd) from hS1)
  clear hS1 hr hx HS
  go_loop [20] (fun i => ∃ j : Nat, i = .int .i64 j ∧ j ≤ p) (fun i => n - (intOf i).toNat)
  case atStart => exact ⟨0, rfl, by omega⟩
  case round =>
    obtain ⟨j, rfl, hj⟩ := hrel
    by_cases hlt : j < p
    · have HF := HPN.out j hlt
      rcases HS1.out.look HW.out hc (j := j) (by rw [HN.out]; omega) with ⟨hcs, _⟩ | ⟨q1, b, g, s', xs, hcs, hP, hne, _⟩ | ⟨q1, b, g, xs, hcs, hP, hh⟩
      · have hd : decide ((0 : Int) = (s : Int)) = false := by rw [decide_eq_false_iff_not]; omega
        clear HF
        go_wp2_with (first | (go_at_call 80; refine (kwords_nil _).mono ?_; rintro e w' ⟨rfl, rfl⟩))
        go_round
        case rel => exact ⟨j + 1, by go_num, by omega⟩
        case measure => simp [intOf]; omega
      · rw [HSZ.out] at hne
        have hd : decide ((s' : Int) = (s : Int)) = false := by rw [decide_eq_false_iff_not]; omega
        clear HF
        go_wp2_with (first | (go_at_call 80; refine (kwords_any q1 b g _ _ _ hP).mono ?_; rintro e w' ⟨rfl, rfl⟩))
        go_round
        case rel => exact ⟨j + 1, by go_num, by omega⟩
        case measure => simp [intOf]; omega
      · rw [HSZ.out] at hP
        have HA := (show Hid (allB xs = true) from bool_no HF hh)
        clear HF hh
        go_wp2_with (first | (go_at_call 80; refine (kwords_any q1 b g _ _ _ hP).mono ?_; rintro e w' ⟨rfl, rfl⟩) | (go_at_call 88; refine (kfull_any q1 b g _ _ _ hP).mono ?_; rw [HA.out]; rintro e w' ⟨rfl, rfl⟩))
        go_round
        case rel => exact ⟨j + 1, by go_num, by omega⟩
        case measure => simp [intOf]; omega
    · obtain rfl : j = p := by omega
      have HF := HPV.out
      rcases HS1.out.look HW.out hc (j := j) (by rw [HN.out]; omega) with ⟨_, hh⟩ | ⟨q1, b, g, s', xs, hcs, hP, hne, hh⟩ | ⟨q1, b, g, xs, hcs, hP, hh⟩
      · rw [HF] at hh; cases hh
      · rw [HF] at hh; cases hh
      · rw [HSZ.out] at hP
        have HA := (show Hid (allB xs = false) from bool_yes HF hh)
        clear HF hh
        go_wp2_with (first | (go_at_call 80; refine (kwords_any q1 b g _ _ _ hP).mono ?_; rintro e w' ⟨rfl, rfl⟩) | (go_at_call 88; refine (kfull_any q1 b g _ _ _ hP).mono ?_; rw [HA.out]; rintro e w' ⟨rfl, rfl⟩))
        go_ret2
        exact ⟨rfl, hK⟩

theorem none_has {c : Nat} {kd : List PK} (h : nextR (hasL c kd) 0 true = -1) : ∀ t, (kat kd t).has c = false := by
  intro t
  rcases nextR_spec (hasL c kd) true _ 0 rfl with ⟨_, e⟩ | ⟨j, e, _⟩
  · rcases Nat.lt_or_ge t kd.length with ht | ht
    · have := e t (by omega) (by rw [hasL_length]; exact ht)
      rw [hasL_get] at this
      simpa using this
    · rw [kat_out kd t ht]; rfl
  · rw [h] at e; omega

set_option maxHeartbeats 2000000 in
theorem room_full (sb c : Nat) (L : Lay) (F : List Nat) (ws : List Int) (ts : List Bool) (kd : List PK) (w : World) (h : SpAt w sb L F ws ts kd) (hw : WF kd) (hc : c < 5) (hpn : ∀ t, (kat kd t).has c = false) (hr : runR ts 0 1 = -1) :
    Calls Try.prog 83 #[.pointer (some ⟨sb, 0, none⟩), .int .i64 c] w fun e w' => e = .returned (.tuple #[.int .i64 0, .int .i64 3]) ∧ Keep [] w w' := by
  have HR := (show Hid (runR ts 0 1 = -1) from hr)
  clear hr
  obtain ⟨s, hs⟩ : ∃ s, sz c = s := ⟨_, rfl⟩
  have HSZ := (show Hid (sz c = s) from hs)
  have HSL := (show Hid (sizesL[c]?.getD 0 = (s : Nat)) from by show _ = _; rw [sizes_at c hc, hs])
  have hs2 : 2 ≤ s := by rw [← hs]; exact (sz_facts c hc).2.2.1
  obtain ⟨n, hn⟩ : ∃ n, kd.length = n := ⟨_, rfl⟩
  have HN := (show Hid (kd.length = n) from hn)
  have hn2 : n ≤ 256 := by rw [← hn]; exact hw.len2
  have HW := (show Hid (WF kd) from hw)
  have HS := (show Hid (SpAt w sb L F ws ts kd) from h)
  have HPN := (show Hid (∀ t, (kat kd t).has c = false) from hpn)
  clear hs hn hw h hpn
  go_enter Try.func83, Try.ntmps83
  go_wp2_with (go_at_call 72; refine (sizes_any _).mono ?_; rintro e w1 ⟨gz, rfl, hr, hK, hgz⟩; have hx := hr.cell (i := c) hc; rw [HSL.out] at hx; have hS1 := HS.out.keep0 hK; have hc2 := hS1.c2; rw [HN.out] at hc2)
  have HS1 := (show Hid (SpAt w1 sb L F ws ts kd) from hS1)
  clear hS1 hr hx HS
  go_loop [20] (fun i => ∃ j : Nat, i = .int .i64 j ∧ j ≤ n) (fun i => n - (intOf i).toNat)
  case atStart => exact ⟨0, rfl, by omega⟩
  case round =>
    obtain ⟨j, rfl, hj⟩ := hrel
    by_cases hlt : j < n
    · have HF := HPN.out j
      rcases HS1.out.look HW.out hc (j := j) (by rw [HN.out]; omega) with ⟨hcs, _⟩ | ⟨q1, b, g, s', xs, hcs, hP, hne, _⟩ | ⟨q1, b, g, xs, hcs, hP, hh⟩
      · have hd : decide ((0 : Int) = (s : Int)) = false := by rw [decide_eq_false_iff_not]; omega
        clear HF
        go_wp2_with (first | (go_at_call 80; refine (kwords_nil _).mono ?_; rintro e w' ⟨rfl, rfl⟩))
        go_round
        case rel => exact ⟨j + 1, by go_num, by omega⟩
        case measure => simp [intOf]; omega
      · rw [HSZ.out] at hne
        have hd : decide ((s' : Int) = (s : Int)) = false := by rw [decide_eq_false_iff_not]; omega
        clear HF
        go_wp2_with (first | (go_at_call 80; refine (kwords_any q1 b g _ _ _ hP).mono ?_; rintro e w' ⟨rfl, rfl⟩))
        go_round
        case rel => exact ⟨j + 1, by go_num, by omega⟩
        case measure => simp [intOf]; omega
      · rw [HSZ.out] at hP
        have HA := (show Hid (allB xs = true) from bool_no HF hh)
        clear HF hh
        go_wp2_with (first | (go_at_call 80; refine (kwords_any q1 b g _ _ _ hP).mono ?_; rintro e w' ⟨rfl, rfl⟩) | (go_at_call 88; refine (kfull_any q1 b g _ _ _ hP).mono ?_; rw [HA.out]; rintro e w' ⟨rfl, rfl⟩))
        go_round
        case rel => exact ⟨j + 1, by go_num, by omega⟩
        case measure => simp [intOf]; omega
    · obtain rfl : j = n := by omega
      have hc1 := HS1.out.c1
      have hP := HS1.out.pages
      go_wp2_with (first | (go_at_call 85; refine (ptake_no L.pb L.b L.g 1 ts _ hP (by omega) (by omega) HR.out).mono ?_; rintro e w' ⟨rfl, rfl⟩))
      go_ret2
      exact ⟨rfl, hK⟩

set_option maxHeartbeats 4000000 in
theorem room_new (sb c p : Nat) (L : Lay) (F : List Nat) (ws : List Int) (kd : List PK) (w : World) (h : SpAt w sb L F ws (takenL kd) kd) (hw : WF kd) (hc : c < 5) (hpn : ∀ t, (kat kd t).has c = false) (hr : runR (takenL kd) 0 1 = p) (hcl : Clear (takenL kd) p 1) :
    Calls Try.prog 83 #[.pointer (some ⟨sb, 0, none⟩), .int .i64 c] w fun e w' => ∃ L' F', e = .returned (.tuple #[.int .i64 p, .int .i64 0]) ∧ SpAt w' sb L' F' ws (takenL (kd.set p (.small c (offs (roomOf c))))) (kd.set p (.small c (offs (roomOf c)))) ∧ Keep F w w' ∧ Grows w F F' := by
  have hpl : p < kd.length := by have := hcl.1; rw [takenL_length] at this; omega
  have HKF := (show Hid (kat kd p = .free) from (clear_free hcl).2 p (by omega) (by omega))
  have HPT := (show Hid (putR (takenL kd) p 1 true = takenL (kd.set p (.small c (offs (roomOf c))))) from by
    show _ = _
    rw [putR_one, taken_set]; rfl)
  have HR := (show Hid (runR (takenL kd) 0 1 = p) from hr)
  have HCL := (show Hid (Clear (takenL kd) p 1) from hcl)
  have HPL := (show Hid (p < kd.length) from hpl)
  clear hr hcl
  obtain ⟨s, hs⟩ : ∃ s, sz c = s := ⟨_, rfl⟩
  have HSZ := (show Hid (sz c = s) from hs)
  have HSL := (show Hid (sizesL[c]?.getD 0 = (s : Nat)) from by show _ = _; rw [sizes_at c hc, hs])
  have hs2 : 2 ≤ s := by rw [← hs]; exact (sz_facts c hc).2.2.1
  obtain ⟨n, hn⟩ : ∃ n, kd.length = n := ⟨_, rfl⟩
  have HN := (show Hid (kd.length = n) from hn)
  have hn2 : n ≤ 256 := by rw [← hn]; exact hw.len2
  have HW := (show Hid (WF kd) from hw)
  have HS := (show Hid (SpAt w sb L F ws (takenL kd) kd) from h)
  have HPN := (show Hid (∀ t, (kat kd t).has c = false) from hpn)
  rw [hn] at hpl
  clear hs hn hw h hpn
  go_enter Try.func83, Try.ntmps83
  go_wp2_with (go_at_call 72; refine (sizes_any _).mono ?_; rintro e w1 ⟨gz, rfl, hr, hK, hgz⟩; have hx := hr.cell (i := c) hc; rw [HSL.out] at hx; have hS1 := HS.out.keep0 hK; have hc2 := hS1.c2; rw [HN.out] at hc2)
  have HS1 := (show Hid (SpAt w1 sb L F ws (takenL kd) kd) from hS1)
  clear hS1 hr hx HS
  go_loop [20] (fun i => ∃ j : Nat, i = .int .i64 j ∧ j ≤ n) (fun i => n - (intOf i).toNat)
  case atStart => exact ⟨0, rfl, by omega⟩
  case round =>
    obtain ⟨j, rfl, hj⟩ := hrel
    by_cases hlt : j < n
    · have HF := HPN.out j
      rcases HS1.out.look HW.out hc (j := j) (by rw [HN.out]; omega) with ⟨hcs, _⟩ | ⟨q1, b, g, s', xs, hcs, hP, hne, _⟩ | ⟨q1, b, g, xs, hcs, hP, hh⟩
      · have hd : decide ((0 : Int) = (s : Int)) = false := by rw [decide_eq_false_iff_not]; omega
        clear HF
        go_wp2_with (first | (go_at_call 80; refine (kwords_nil _).mono ?_; rintro e w' ⟨rfl, rfl⟩))
        go_round
        case rel => exact ⟨j + 1, by go_num, by omega⟩
        case measure => simp [intOf]; omega
      · rw [HSZ.out] at hne
        have hd : decide ((s' : Int) = (s : Int)) = false := by rw [decide_eq_false_iff_not]; omega
        clear HF
        go_wp2_with (first | (go_at_call 80; refine (kwords_any q1 b g _ _ _ hP).mono ?_; rintro e w' ⟨rfl, rfl⟩))
        go_round
        case rel => exact ⟨j + 1, by go_num, by omega⟩
        case measure => simp [intOf]; omega
      · rw [HSZ.out] at hP
        have HA := (show Hid (allB xs = true) from bool_no HF hh)
        clear HF hh
        go_wp2_with (first | (go_at_call 80; refine (kwords_any q1 b g _ _ _ hP).mono ?_; rintro e w' ⟨rfl, rfl⟩) | (go_at_call 88; refine (kfull_any q1 b g _ _ _ hP).mono ?_; rw [HA.out]; rintro e w' ⟨rfl, rfl⟩))
        go_round
        case rel => exact ⟨j + 1, by go_num, by omega⟩
        case measure => simp [intOf]; omega
    · obtain rfl : j = n := by omega
      have hc1 := HS1.out.c1
      have hP := HS1.out.pages
      have hp0 : decide ((p : Int) < 0) = false := by rw [decide_eq_false_iff_not]; omega
      go_wp2_with (first | (go_at_call 85; refine (ptake_yes L.pb L.b L.g 1 p _ _ hP (by omega) HR.out HCL.out.1).mono ?_; rintro e w3 ⟨rfl, hP3, hK3⟩))
      have hS3 := (HS1.out.turn hK3 hP3).keep0 (Keep.drew [] w3)
      rw [HPT.out] at hS3
      have hc3 := hS3.c2
      rw [HN.out] at hc3
      have hK4 := (hK3.trans (Keep.drew [L.g] w3))
      have hne : sb ≠ L.gs := ne_of_role hS3.r0 hS3.r6 (by omega)
      have hne2 : L.gs ≠ sb := fun e => hne e.symm
      clear hc1 hP hP3 hK3 hc2
      go_region_held3 (fun wz => wz.cell? ⟨sb, 2, none⟩ = some (.slice (some ⟨L.gs, 0, none⟩) j j)) (go_keep) (first | (go_at_call 89; refine (knew_ok c _ hc).mono ?_; rintro e w5 ⟨q1, q2, q3, rfl, hP5, hK5, hq1, hq2, hq3⟩; have hS5 := hS3.keep0 hK5; have hc5 := hS5.c2; rw [HN.out] at hc5; have hcs5 := hS5.cs HPL.out; rw [HKF.out] at hcs5; have hfs5 := hS5.fs p))
      have hlt5 := hP5.lt
      have hF := HS1.out.lt
      have hsz3 := hK4.size
      have hsz1 := hK.size
      have HG := (show Hid (SpAt (w5.setCell ⟨L.gs, p, none⟩ (.pointer (some ⟨q1, 0, none⟩))) sb (L.more p q1 q2 q3) (q1 :: q2 :: q3 :: F) ws (takenL (kd.set p (.small c (offs (roomOf c))))) (kd.set p (.small c (offs (roomOf c))))) from
        hS5.gain HPL.out HKF.out hP5 ⟨fun e => by have := hF _ e; omega, fun e => by have := hF _ e; omega, fun e => by have := hF _ e; omega⟩)
      have f := HS1.out.f
      have HK6 := (show Hid (Keep F w (w5.setCell ⟨L.gs, p, none⟩ (.pointer (some ⟨q1, 0, none⟩)))) from
        (((hK.mono (T := F) (by simp)).trans (hK4.mono (fun k e => by simp at e; subst e; exact f.2.2.2.2.2.1))).trans (hK5.mono (by simp))).trans (Keep.setCell _ _ f.2.2.2.2.2.2.1))
      have HGR := (show Hid (Grows w F (q1 :: q2 :: q3 :: F)) from fun k e => by
        simp only [List.mem_cons] at e
        rcases e with e | e | e | e
        · right; omega
        · right; omega
        · right; omega
        · exact .inl e)
      clear hS5 hP5 hK5 hS3 hK4 f hF
      go_wp2_with fail
      go_ret2
      exact ⟨_, _, rfl, HG.out, HK6.out, HGR.out⟩

end Go.Proofs.Ytgpidokklhjfdaa

/-
  Alloc of package space, whatever it is given.
-/
namespace Go.Proofs.Ytgpidokklhjfdaa
open Go.RowKit

set_option maxHeartbeats 2000000 in
/-- A page of the class has room, told by what looking for it answers. -/
theorem tks_yes (sb c p i : Nat) (xs : List Bool) (F : List Nat) (ws : List Int) (ts : List Bool) (kd : List PK) (w : World) (hc : c < 5)
    (hroom : Calls Try.prog 83 #[.pointer (some ⟨sb, 0, none⟩), .int .i64 c] w fun e w' => ∃ L F1, e = .returned (.tuple #[.int .i64 p, .int .i64 0]) ∧ SpAt w' sb L F1 ws ts kd ∧ Keep F w w' ∧ Grows w F F1)
    (hk : kat kd p = .small c xs) (hx : xs.length = roomOf c) (hi : nextR xs 0 false = i) (hil : i < xs.length) (hp2 : p ≤ 256) :
    Calls Try.prog 74 #[.pointer (some ⟨sb, 0, none⟩), .int .i64 c] w fun e w' => ∃ L F1, e = .returned (.tuple #[.int .i64 ((64 * p + i * sz c : Nat) : Int), .int .i64 0]) ∧ SpAt w' sb L F1 ws ts (kd.set p (.small c (xs.set i true))) ∧ Keep F w w' ∧ Grows w F F1 := by
  obtain ⟨z1, z2, z3, z4, z5, z6, z7⟩ := sz_facts c hc
  have HR := (show Hid (Calls Try.prog 83 #[.pointer (some ⟨sb, 0, none⟩), .int .i64 c] w fun e w' => ∃ L F1, e = .returned (.tuple #[.int .i64 p, .int .i64 0]) ∧ SpAt w' sb L F1 ws ts kd ∧ Keep F w w' ∧ Grows w F F1) from hroom)
  have HK := (show Hid (kat kd p = .small c xs) from hk)
  have HPL := (show Hid (p < kd.length) from kat_lt kd p (by rw [hk]; simp))
  have HI := (show Hid (nextR xs 0 false = i) from hi)
  have HIL := (show Hid (i < xs.length) from hil)
  have HZ := (show Hid (wordsOf c = sz c) from z1)
  obtain ⟨n, hn⟩ : ∃ n, kd.length = n := ⟨_, rfl⟩
  have HN := (show Hid (kd.length = n) from hn)
  have hpn : p < n := by rw [← hn]; exact HPL.out
  obtain ⟨s, hs⟩ : ∃ s, sz c = s := ⟨_, rfl⟩
  have HSZ := (show Hid (sz c = s) from hs)
  rw [hs] at z2 z4 z3 ⊢
  have hi32 : i ≤ 32 := by omega
  obtain ⟨y, hy⟩ : ∃ y : Nat, i * s = y := ⟨_, rfl⟩
  have hyb : y ≤ 32 * 32 := by rw [← hy]; exact Nat.mul_le_mul hi32 z4
  have hyi : (i : Int) * (s : Int) = y := by rw [← hy]; exact (Int.natCast_mul i s).symm
  rw [hy]
  have hyw : IntKind.i64.wrap ((i : Int) * s) = y := by rw [hyi]; exact IntWalk.i64_in _ (by omega)
  have HA := (show Hid ((p : Int) * 64 + y = ((64 * p + y : Nat) : Int)) from by show _ = _; omega)
  clear hroom hk hi hil hn hs hx z1 z2 z3 z5 z6 z7 hy
  go_enter Try.func74, Try.ntmps74
  go_wp2_with fail
  refine HR.out.mono ?_
  rintro e w1 ⟨L, F1, rfl, hS1, hK1, hG1⟩
  have hc2 := hS1.c2
  have hcs := hS1.cs HPL.out
  have hP := hS1.page p c xs HK.out
  rw [HK.out] at hcs
  rw [HN.out] at hc2
  rw [HZ.out, HSZ.out] at hP
  have hcs' : w1.cell? ⟨L.gs, p, none⟩ = some (.pointer (some ⟨(L.P p).1, 0, none⟩)) := hcs
  have HS1 := (show Hid (SpAt w1 sb L F1 ws ts kd) from hS1)
  have HG1 := (show Hid (Grows w F F1) from hG1)
  have hsz := hK1.size
  obtain ⟨q1, hq1⟩ : ∃ q1, (L.P p).1 = q1 := ⟨_, rfl⟩
  obtain ⟨q2, hq2⟩ : ∃ q2, (L.P p).2.1 = q2 := ⟨_, rfl⟩
  obtain ⟨q3, hq3⟩ : ∃ q3, (L.P p).2.2 = q3 := ⟨_, rfl⟩
  have HQ := (show Hid ((L.P p).1 = q1 ∧ (L.P p).2.1 = q2 ∧ (L.P p).2.2 = q3) from ⟨hq1, hq2, hq3⟩)
  rw [hq1] at hcs'
  rw [hq1, hq2, hq3] at hP
  clear hS1 hcs hG1 hq1 hq2 hq3
  go_wp2_with (first | (go_at_call 84; refine (ktake_yes q1 q2 q3 i _ _ _ hP HI.out HIL.out).mono ?_; rintro e w3 ⟨rfl, hP3, hK3⟩; have hq3 := HQ.out; have hS3 := HS1.out.inner HK.out (by rw [hq3.2.2]; exact hK3) (by rw [hq3.1, hq3.2.1, hq3.2.2, HZ.out, HSZ.out]; exact hP3); have hc23 := hS3.c2; rw [List.length_set, HN.out] at hc23; have hcs3 := hS3.cs (p := p) (by rw [List.length_set]; exact HPL.out); rw [kat_set_same _ _ _ HPL.out] at hcs3; have hcs4 : w3.cell? ⟨L.gs, p, none⟩ = some (.pointer (some ⟨(L.P p).1, 0, none⟩)) := hcs3; rw [hq3.1] at hcs4; clear hcs3) | (go_at_call 80; refine (kwords_any q1 q2 q3 _ _ _ hP3).mono ?_; rintro e w' ⟨rfl, rfl⟩))
  have hq3F : q3 ∈ F1 := by have := (HS1.out.fp p c xs HK.out).2.2; rw [hq3.2.2] at this; exact this
  have HK4 := (show Hid (Keep F w w3) from ((hK1.mono (T := q3 :: F) (fun k e => List.mem_cons_of_mem _ e)).trans (hK3.mono (by simp))).drop (fun k e hlt => by
    rcases List.mem_cons.1 e with rfl | e
    · rcases HG1.out _ hq3F with h | h
      · exact h
      · omega
    · exact e))
  have HS3 := (show Hid (SpAt w3 sb L F1 ws ts (kd.set p (.small c (xs.set i true)))) from hS3)
  clear hS3 hK3 hK1 hP3
  all_goals
    go_ret2
    exact ⟨L, F1, by rw [← HA.out]; rfl, HS3.out, HK4.out, HG1.out⟩
set_option maxHeartbeats 1000000 in
theorem tks_no (sb c : Nat) (w : World)
    (hroom : Calls Try.prog 83 #[.pointer (some ⟨sb, 0, none⟩), .int .i64 c] w fun e w' => e = .returned (.tuple #[.int .i64 0, .int .i64 3]) ∧ Keep [] w w') :
    Calls Try.prog 74 #[.pointer (some ⟨sb, 0, none⟩), .int .i64 c] w fun e w' => e = .returned (.tuple #[.int .i64 0, .int .i64 3]) ∧ Keep [] w w' := by
  have HR := (show Hid (Calls Try.prog 83 #[.pointer (some ⟨sb, 0, none⟩), .int .i64 c] w fun e w' => e = .returned (.tuple #[.int .i64 0, .int .i64 3]) ∧ Keep [] w w') from hroom)
  clear hroom
  go_enter Try.func74, Try.ntmps74
  go_wp2_with (go_at_call 83; refine HR.out.mono ?_; rintro e w1 ⟨rfl, hK1⟩)
  go_ret2
  exact ⟨rfl, hK1⟩

set_option maxHeartbeats 1000000 in
theorem tkl_no (sb k : Nat) (L : Lay) (F : List Nat) (ws : List Int) (ts : List Bool) (kd : List PK) (w : World) (h : SpAt w sb L F ws ts kd) (hk : 1 ≤ k) (hk2 : k ≤ 16) (hr : runR ts 0 k = -1) :
    Calls Try.prog 75 #[.pointer (some ⟨sb, 0, none⟩), .int .i64 k] w fun e w' => e = .returned (.tuple #[.int .i64 0, .int .i64 3]) ∧ Keep [] w w' := by
  have hc1 := h.c1
  have hP := h.pages
  have HR := (show Hid (runR ts 0 k = -1) from hr)
  clear h hr
  go_enter Try.func75, Try.ntmps75
  go_wp2_with (go_at_call 85; refine (ptake_no L.pb L.b L.g k ts _ hP hk (by omega) HR.out).mono ?_; rintro e w' ⟨rfl, rfl⟩)
  go_ret2
  exact ⟨rfl, Keep.refl _ _⟩
set_option maxHeartbeats 2000000 in
theorem tkl_yes (sb k p : Nat) (L : Lay) (F : List Nat) (ws : List Int) (kd : List PK) (w : World) (h : SpAt w sb L F ws (takenL kd) kd) (hk : 1 ≤ k) (hk2 : k ≤ 16) (hr : runR (takenL kd) 0 k = p) (hcl : Clear (takenL kd) p k) (hn2 : kd.length ≤ 256) :
    Calls Try.prog 75 #[.pointer (some ⟨sb, 0, none⟩), .int .i64 k] w fun e w' => ∃ L F1, e = .returned (.tuple #[.int .i64 ((64 * p : Nat) : Int), .int .i64 0]) ∧ SpAt w' sb L F1 ws (takenL (putParts kd p k)) (putParts kd p k) ∧ Keep F w w' ∧ Grows w F F1 := by
  obtain ⟨hpl, hfree⟩ := clear_free hcl
  have HT := (show Hid (putR (takenL kd) p k true = takenL (putParts kd p k)) from (taken_put kd p k hpl).symm)
  have HB := (show Hid (bigL (putParts kd p k) = (bigL kd).set p k) from big_put kd p k hk hcl)
  have HS := (show Hid (∀ q, kat (putParts kd p k) q = kat kd q ∨ (∀ c xs, kat (putParts kd p k) q ≠ .small c xs) ∧ (∀ c xs, kat kd q ≠ .small c xs)) from fun q => by
    rw [putParts_at kd p k q hpl]
    by_cases e : p ≤ q ∧ q < p + k
    · right; rw [if_pos e, hfree q e.1 e.2]; simp
    · left; rw [if_neg e])
  have HL := (show Hid (p < kd.length) from by show _ < _; omega)
  have hc1 := h.c1
  have hP := h.pages
  have HR := (show Hid (runR (takenL kd) 0 k = p) from hr)
  have HC := (show Hid (Clear (takenL kd) p k) from hcl)
  obtain ⟨n, hn⟩ : ∃ n, kd.length = n := ⟨_, rfl⟩
  have HN := (show Hid (kd.length = n) from hn)
  have hpn : p < n := by omega
  rw [hn] at hn2
  have H := (show Hid (SpAt w sb L F ws (takenL kd) kd) from h)
  have HA := (show Hid ((p : Int) * 64 = ((64 * p : Nat) : Int)) from by show _ = _; omega)
  clear hpl hfree hr hcl h hn
  go_enter Try.func75, Try.ntmps75
  go_wp2_with (first | (go_at_call 85; refine (ptake_yes L.pb L.b L.g k p _ _ hP hk HR.out HC.out.1).mono ?_; rintro e w1 ⟨rfl, hP1, hK1⟩; have hS1 := H.out.turn hK1 hP1; rw [HT.out] at hS1; have hc3 := hS1.c3; rw [HN.out] at hc3; have hcl := hS1.cl HL.out; have hfl := hS1.fl p; have HS2 := (show Hid (SpAt (w1.setCell ⟨L.gl, p, none⟩ (.int .i64 (k : Int))) sb L F ws (takenL (putParts kd p k)) (putParts kd p k)) from hS1.larger (putParts_length kd p k) HB.out HS.out); have f := hS1.f; have HK2 := (show Hid (Keep F w (w1.setCell ⟨L.gl, p, none⟩ (.int .i64 (k : Int)))) from (hK1.mono (fun x e => by simp at e; subst e; exact f.2.2.2.2.2.1)).trans (Keep.setCell _ _ f.2.2.2.2.2.2.2)); clear hS1 hP1 hK1 f))
  go_ret2
  exact ⟨L, F, by rw [← HA.out]; rfl, HS2.out, HK2.out, Grows.refl _ _⟩

set_option maxHeartbeats 1000000 in
theorem take_small (sb c : Nat) (n : Int) (w : World) (v1 v2 : Int) (Q : World → Prop) (hc : classI n = c) (hc5 : c < 5)
    (ht : ∀ w', Keep [] w w' → Calls Try.prog 74 #[.pointer (some ⟨sb, 0, none⟩), .int .i64 c] w' fun e w'' => e = .returned (.tuple #[.int .i64 v1, .int .i64 v2]) ∧ Q w'') :
    Calls Try.prog 55 #[.pointer (some ⟨sb, 0, none⟩), .int .i64 n] w fun e w' => e = .returned (.tuple #[.int .i64 v1, .int .i64 v2]) ∧ Q w' := by
  have HC := (show Hid (classI n = c) from hc)
  have HT := (show Hid (∀ w', Keep [] w w' → Calls Try.prog 74 #[.pointer (some ⟨sb, 0, none⟩), .int .i64 c] w' fun e w'' => e = .returned (.tuple #[.int .i64 v1, .int .i64 v2]) ∧ Q w'') from ht)
  have hd : decide ((0 : Int) ≤ (c : Int)) = true := by rw [decide_eq_true_iff]; omega
  clear hc ht
  go_enter Try.func55, Try.ntmps55
  go_wp2_with (first | (go_at_call 71; refine (class_any _ _).mono ?_; rw [HC.out]; rintro e w1 ⟨rfl, hK1⟩) | (go_at_call 74; refine (HT.out _ hK1).mono ?_; rintro e w3 ⟨rfl, hQ⟩))
  go_ret2
  exact ⟨rfl, hQ⟩
set_option maxHeartbeats 1000000 in
theorem take_large (sb k : Nat) (n : Int) (w : World) (v1 v2 : Int) (Q : World → Prop) (hc : classI n = -1) (hk : pagesI n = k)
    (ht : ∀ w', Keep [] w w' → Calls Try.prog 75 #[.pointer (some ⟨sb, 0, none⟩), .int .i64 k] w' fun e w'' => e = .returned (.tuple #[.int .i64 v1, .int .i64 v2]) ∧ Q w'') :
    Calls Try.prog 55 #[.pointer (some ⟨sb, 0, none⟩), .int .i64 n] w fun e w' => e = .returned (.tuple #[.int .i64 v1, .int .i64 v2]) ∧ Q w' := by
  have HC := (show Hid (classI n = -1) from hc)
  have HP := (show Hid (pagesI n = k) from hk)
  have HT := (show Hid (∀ w', Keep [] w w' → Calls Try.prog 75 #[.pointer (some ⟨sb, 0, none⟩), .int .i64 k] w' fun e w'' => e = .returned (.tuple #[.int .i64 v1, .int .i64 v2]) ∧ Q w'') from ht)
  clear hc hk ht
  go_enter Try.func55, Try.ntmps55
  go_wp2_with (first | (go_at_call 71; refine (class_any _ _).mono ?_; rw [HC.out]; rintro e w1 ⟨rfl, hK1⟩) | (go_at_call 73; refine (pages_any _ _).mono ?_; rw [HP.out]; rintro e w2 ⟨rfl, hK2⟩) | (go_at_call 75; refine (HT.out _ (hK1.trans hK2)).mono ?_; rintro e w3 ⟨rfl, hQ⟩))
  go_ret2
  exact ⟨rfl, hQ⟩

end Go.Proofs.Ytgpidokklhjfdaa

/-
  Alloc and Free of package space, whatever they are given.
-/
namespace Go.Proofs.Ytgpidokklhjfdaa
open Go.RowKit

set_option maxHeartbeats 1000000 in
theorem salloc_arg (sb : Nat) (n : Int) (w : World) (h : blockI n = 0) :
    Calls Try.prog 29 #[.pointer (some ⟨sb, 0, none⟩), .int .i64 n] w fun e w' => e = .returned (.tuple #[.int .i64 0, .int .i64 1]) ∧ Keep [] w w' := by
  have HB := (show Hid (blockI n = 0) from h)
  clear h
  go_enter Try.func29, Try.ntmps29
  go_wp2_with (go_at_call 54; refine (block_any _ _).mono ?_; rw [HB.out]; rintro e w1 ⟨rfl, hK1⟩)
  go_ret2
  exact ⟨rfl, hK1⟩
set_option maxHeartbeats 1000000 in
theorem salloc_nil (n : Int) (w : World) :
    Calls Try.prog 29 #[.pointer none, .int .i64 n] w fun e w' => e = .returned (.tuple #[.int .i64 0, .int .i64 2]) ∧ w = w' := by
  go_enter Try.func29, Try.ntmps29
  go_wp2
  go_ret2
  exact ⟨rfl, rfl⟩
set_option maxHeartbeats 1000000 in
theorem alloc_no (sb : Nat) (n : Int) (w : World) (h : blockI n ≠ 0)
    (ht : ∀ w', Keep [] w w' → Calls Try.prog 55 #[.pointer (some ⟨sb, 0, none⟩), .int .i64 n] w' fun e w'' => e = .returned (.tuple #[.int .i64 0, .int .i64 3]) ∧ Keep [] w' w'') :
    Calls Try.prog 29 #[.pointer (some ⟨sb, 0, none⟩), .int .i64 n] w fun e w' => e = .returned (.tuple #[.int .i64 0, .int .i64 3]) ∧ Keep [] w w' := by
  obtain ⟨b, hb⟩ : ∃ b, blockI n = b := ⟨_, rfl⟩
  have HB := (show Hid (blockI n = b) from hb)
  have hd : decide (b = 0) = false := by rw [decide_eq_false_iff_not, ← hb]; exact h
  rw [hb] at h
  have HT := (show Hid (∀ w', Keep [] w w' → Calls Try.prog 55 #[.pointer (some ⟨sb, 0, none⟩), .int .i64 n] w' fun e w'' => e = .returned (.tuple #[.int .i64 0, .int .i64 3]) ∧ Keep [] w' w'') from ht)
  clear hb ht
  go_enter Try.func29, Try.ntmps29
  go_wp2_with (first | (go_at_call 54; refine (block_any _ _).mono ?_; rw [HB.out]; rintro e w1 ⟨rfl, hK1⟩) | (go_at_call 55; refine (HT.out _ hK1).mono ?_; rintro e w2 ⟨rfl, hK2⟩))
  go_ret2
  exact ⟨rfl, hK1.trans hK2⟩
set_option maxHeartbeats 2000000 in
theorem alloc_yes (sb a b : Nat) (n : Int) (F : List Nat) (ws : List Int) (ts : List Bool) (kd : List PK) (w : World) (hb : blockI n = b) (hb1 : 1 ≤ b) (hab : a + b ≤ ws.length)
    (ht : ∀ w', Keep [] w w' → Calls Try.prog 55 #[.pointer (some ⟨sb, 0, none⟩), .int .i64 n] w' fun e w'' => e = .returned (.tuple #[.int .i64 a, .int .i64 0]) ∧ ∃ L F1, SpAt w'' sb L F1 ws ts kd ∧ Keep F w' w'' ∧ Grows w' F F1) :
    Calls Try.prog 29 #[.pointer (some ⟨sb, 0, none⟩), .int .i64 n] w fun e w' => ∃ L F1, e = .returned (.tuple #[.int .i64 a, .int .i64 0]) ∧ SpAt w' sb L F1 (fill0 ws a b) ts kd ∧ Keep F w w' ∧ Grows w F F1 := by
  have HB := (show Hid (blockI n = b) from hb)
  have hd : decide ((b : Int) = 0) = false := by rw [decide_eq_false_iff_not]; omega
  have HT := (show Hid (∀ w', Keep [] w w' → Calls Try.prog 55 #[.pointer (some ⟨sb, 0, none⟩), .int .i64 n] w' fun e w'' => e = .returned (.tuple #[.int .i64 a, .int .i64 0]) ∧ ∃ L F1, SpAt w'' sb L F1 ws ts kd ∧ Keep F w' w'' ∧ Grows w' F F1) from ht)
  clear hb ht
  go_enter Try.func29, Try.ntmps29
  go_wp2_with (first | (go_at_call 54; refine (block_any _ _).mono ?_; rw [HB.out]; rintro e w1 ⟨rfl, hK1⟩) | (go_at_call 55; refine (HT.out _ hK1).mono ?_; rintro e w2 ⟨rfl, L, F1, hS2, hK2, hG2⟩; have hc0 := hS2.c0; have hA2 := hS2.arena) | (go_at_call 56; refine (fill_yes L.ab L.ag a b _ _ hA2 (by omega) (by omega)).mono ?_; rintro e w3 ⟨rfl, hA3, hK3⟩))
  have hS3 := hS2.words hK3 hA3 (fill0_length ws a b hab)
  have f := hS2.f
  have hsz := hK1.size
  have hsz2 := hK2.size
  have HG := (show Hid (Grows w F F1) from fun k e => by
    rcases hG2 k e with h | h
    · exact .inl h
    · right; omega)
  have HK := (show Hid (Keep F w w3) from (((hK1.mono (T := L.ag :: F) (by simp)).trans (hK2.mono (fun k e => List.mem_cons_of_mem _ e))).trans (hK3.mono (by simp))).drop (fun k e hlt => by
    rcases List.mem_cons.1 e with rfl | e
    · rcases hG2 _ f.2.2.1 with h | h
      · exact h
      · omega
    · exact e))
  have HS := (show Hid (SpAt w3 sb L F1 (fill0 ws a b) ts kd) from hS3)
  clear hS3 hS2 hA2 hA3 hK3 hK2 hG2 f
  go_ret2
  exact ⟨L, F1, rfl, HS.out, HK.out, HG.out⟩

/-- Alloc that has room. -/
theorem salloc_yes (sb a b : Nat) (n : Int) (F : List Nat) (ws : List Int) (kd kd' : List PK) (w : World) (h : IsSpace w sb F ws kd) (hw : WF kd) (hr : AllocR kd n (some (a, kd'))) (hb : blockI n = b) :
    Calls Try.prog 29 #[.pointer (some ⟨sb, 0, none⟩), .int .i64 n] w fun e w' => ∃ F', e = .returned (.tuple #[.int .i64 a, .int .i64 0]) ∧ IsSpace w' sb F' (fill0 ws a b) kd' ∧ Keep F w w' ∧ Grows w F F' := by
  obtain ⟨b', hb', hb1, hw', hl', ha1, ha2, hf1, hf2⟩ := hr.spec hw
  obtain rfl : b = b' := by rw [hb] at hb'; omega
  obtain ⟨L, h⟩ := h
  have hlen := h.len
  have hn2 := hw.len2
  have fin : ∀ ht, _ := alloc_yes sb a b n F ws (takenL kd') kd' w hb hb1 (by omega)
  refine (fin ?_).mono ?_
  · intro w1 hK1
    have h1 := h.keep0 hK1
    cases hr with
    | old c p i xs e1 e2 e3 e4 e5 =>
      obtain ⟨hc, hxl, _⟩ := hw.small p c xs e3
      have hp := kat_lt kd p (by rw [e3]; simp)
      have hts : takenL kd = takenL (kd.set p (.small c (xs.set i true))) := by
        rw [taken_set]
        have : (takenL kd)[p]?.getD false = true := by rw [takenL_get, e3]; rfl
        refine beq_of_getD (by simp) (fun t => ?_)
        by_cases e : t = p
        · subst e; rw [this, bset_same _ _ _ (by rw [takenL_length]; exact hp)]; rfl
        · rw [bset_other _ _ _ _ (fun e' => e e'.symm)]
      refine take_small sb c n w1 _ _ (fun w'' => ∃ L F1, SpAt w'' sb L F1 ws (takenL (kd.set p (.small c (xs.set i true)))) (kd.set p (.small c (xs.set i true))) ∧ Keep F w1 w'' ∧ Grows w1 F F1) e1 hc ?_
      intro w2 hK2
      have h2 := h1.keep0 hK2
      refine (tks_yes sb c p i xs F ws (takenL kd) kd w2 hc ((room_old sb c p L F ws _ kd w2 h2 hw hc e2).mono ?_) e3 hxl e4 e5 (by omega)).mono ?_
      · rintro e w3 ⟨rfl, hK3⟩
        exact ⟨L, F, rfl, h2.keep0 hK3, hK3.mono (by simp), Grows.refl _ _⟩
      · rintro e w3 ⟨L3, F3, rfl, hS3, hK3, hG3⟩
        rw [hts] at hS3
        have := hK2.size
        refine ⟨rfl, L3, F3, hS3, (hK2.mono (by simp)).trans hK3, fun k e => ?_⟩
        rcases hG3 k e with h | h
        · exact .inl h
        · right; omega
    | new c p e1 e2 e3 =>
      obtain ⟨c', hc', hc⟩ : ∃ j : Nat, classI n = j ∧ j < 5 := by
        rcases class_lt n with e | e
        · rw [e1] at e; omega
        · exact e
      obtain rfl : c = c' := by rw [e1] at hc'; omega
      have hcl := run_clear (by omega) e3
      have hp : p < kd.length := by have := (clear_free hcl).1; omega
      obtain ⟨z1, z2, z3, z4, z5, z6, z7⟩ := sz_facts c hc
      have hx0 : nextR (offs (roomOf c)) 0 false = 0 := nextR_is _ _ _ 0 (by omega) (by rw [offs_length]; omega) (offs_get _ _) (fun t a b => by omega)
      have hset : (kd.set p (.small c (offs (roomOf c)))).set p (.small c ((offs (roomOf c)).set 0 true)) = kd.set p (.small c ((offs (roomOf c)).set 0 true)) := by simp
      refine take_small sb c n w1 _ _ (fun w'' => ∃ L F1, SpAt w'' sb L F1 ws (takenL (kd.set p (.small c ((offs (roomOf c)).set 0 true)))) (kd.set p (.small c ((offs (roomOf c)).set 0 true))) ∧ Keep F w1 w'' ∧ Grows w1 F F1) e1 hc ?_
      intro w2 hK2
      have h2 := h1.keep0 hK2
      have := tks_yes sb c p 0 (offs (roomOf c)) F ws _ (kd.set p (.small c (offs (roomOf c)))) w2 hc (room_new sb c p L F ws kd w2 h2 hw hc (none_has e2) e3 hcl) (kat_set_same _ _ _ hp) (offs_length _) hx0 (by rw [offs_length]; omega) (by omega)
      rw [hset, show 64 * p + 0 * sz c = 64 * p by omega] at this
      refine this.mono ?_
      rintro e w3 ⟨L3, F3, rfl, hS3, hK3, hG3⟩
      rw [show takenL (kd.set p (.small c (offs (roomOf c)))) = takenL (kd.set p (.small c ((offs (roomOf c)).set 0 true))) by rw [taken_set, taken_set]; rfl] at hS3
      have := hK2.size
      refine ⟨rfl, L3, F3, hS3, (hK2.mono (by simp)).trans hK3, fun k e => ?_⟩
      rcases hG3 k e with h | h
      · exact .inl h
      · right; omega
    | large k p e1 e2 e3 e4 =>
      have hcl := run_clear e3 e4
      have hk16 : k ≤ 16 := by have := (pages_le n).2; omega
      refine take_large sb k n w1 _ _ (fun w'' => ∃ L F1, SpAt w'' sb L F1 ws (takenL (putParts kd p k)) (putParts kd p k) ∧ Keep F w1 w'' ∧ Grows w1 F F1) e1 e2 ?_
      intro w2 hK2
      have h2 := h1.keep0 hK2
      refine (tkl_yes sb k p L F ws kd w2 h2 e3 hk16 e4 hcl hn2).mono ?_
      rintro e w3 ⟨L3, F3, rfl, hS3, hK3, hG3⟩
      have := hK2.size
      refine ⟨rfl, L3, F3, hS3, (hK2.mono (by simp)).trans hK3, fun k e => ?_⟩
      rcases hG3 k e with h | h
      · exact .inl h
      · right; omega
  · rintro e w' ⟨L', F', rfl, hS', hK', hG'⟩
    exact ⟨F', rfl, ⟨L', hS'⟩, hK', hG'⟩
/-- Alloc that has none. -/
theorem salloc_no (sb : Nat) (n : Int) (F : List Nat) (ws : List Int) (kd : List PK) (w : World) (h : IsSpace w sb F ws kd) (hw : WF kd) (hr : AllocR kd n none) (hb : blockI n ≠ 0) :
    Calls Try.prog 29 #[.pointer (some ⟨sb, 0, none⟩), .int .i64 n] w fun e w' => e = .returned (.tuple #[.int .i64 0, .int .i64 3]) ∧ Keep [] w w' := by
  obtain ⟨L, h⟩ := h
  refine alloc_no sb n w hb ?_
  intro w1 hK1
  have h1 := h.keep0 hK1
  cases hr with
  | full c e1 e2 e3 =>
    obtain ⟨c', hc', hc⟩ : ∃ j : Nat, classI n = j ∧ j < 5 := by
      rcases class_lt n with e | e
      · rw [e1] at e; omega
      · exact e
    obtain rfl : c = c' := by rw [e1] at hc'; omega
    refine take_small sb c n w1 _ _ (fun w'' => Keep [] w1 w'') e1 hc ?_
    intro w2 hK2
    refine (tks_no sb c w2 (room_full sb c L F ws _ kd w2 (h1.keep0 hK2) hw hc (none_has e2) e3)).mono ?_
    rintro e w3 ⟨rfl, hK3⟩
    exact ⟨rfl, hK2.trans hK3⟩
  | over k e1 e2 e3 e4 =>
    refine take_large sb k n w1 _ _ (fun w'' => Keep [] w1 w'') e1 e2 ?_
    intro w2 hK2
    refine (tkl_no sb k L F ws _ kd w2 (h1.keep0 hK2) e3 (by have := (pages_le n).2; omega) e4).mono ?_
    rintro e w3 ⟨rfl, hK3⟩
    exact ⟨rfl, hK2.trans hK3⟩

end Go.Proofs.Ytgpidokklhjfdaa
