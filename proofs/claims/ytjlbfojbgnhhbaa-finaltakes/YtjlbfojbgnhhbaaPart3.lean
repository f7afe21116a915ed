/-
  Contracts of what the statement calls, one text behind the other (HeadRef, ObjM, SpaceAns, ObjT, SpaceOps, SpaceAlloc, SpaceTake, SpaceAll, SpaceFree, SpaceHeld).
-/
import Derived.Test.YtjlbfojbgnhhbaaPart2
import Derived.Test.YtjlbfojbgnhhbaaPart1
import Derived.RegionTactic
import Derived.ChangeAlike

/-
  The document's own words on heads: what its calls answer; and the examples of the eighth folder.
-/
namespace Go.Proofs.Ytjlbfojbgnhhbaa
open Go.RowKit

instance (x k c l : Int) (f : Bool) : Decidable (Word x k c l f) := by unfold Word; infer_instance

theorem hget_yes (x k c l : Int) (f : Bool) (w : World) (h : Word x k c l f) :
    Calls Try.prog 34 #[.int .i64 x] w fun e w' => e = .returned (.tuple #[.agg #[.int .i64 k, .int .i64 c, .int .i64 l, .bool f], .bool true]) ∧ Keep [] w w' := by
  obtain ⟨h1, h2, h3, h4, h5, h6⟩ := h.parts
  exact hget_raw_yes x k c l f w (by omega) h3 h4 h5 h6 h.1
theorem hget_no (x : Int) (w : World) (hx : -9223372036854775808 ≤ x ∧ x ≤ 9223372036854775807) (h : ∀ k c l f, ¬ Word x k c l f) :
    Calls Try.prog 34 #[.int .i64 x] w fun e w' => e = .returned (.tuple #[.agg #[.int .i64 0, .int .i64 0, .int .i64 0, .bool false], .bool false]) ∧ Keep [] w w' := by
  refine hget_raw_no x _ _ _ _ w hx rfl rfl rfl rfl ?_
  rw [Bool.eq_false_iff]
  exact fun hm => h _ _ _ _ (word_of hm)




end Go.Proofs.Ytjlbfojbgnhhbaa

/-
  Objects in words: plain facts on pages, words and classes; no program is spoken of but by the numbers of heads.
-/
namespace Go.Proofs.Ytjlbfojbgnhhbaa
open Go.RowKit

def inI (x : Int) : Prop := -9223372036854775808 ≤ x ∧ x ≤ 9223372036854775807

/-- The word x is that of a head that has room in m words, and whose class, if it has one, is there. -/
def HeadOk (ds : List (Int × List Int)) (m : Nat) (x : Int) : Prop := ∃ k c l f, Word x k c l f ∧ l + 1 ≤ m ∧ (k = 1 → ∃ (i : Nat) (L : List Int), c = (i : Int) + 1 ∧ ds[i]? = some (l, L))

/-- Every block has an object; all words are numbers. -/
structure OB (kd : List PK) (ws : List Int) (ds : List (Int × List Int)) : Prop where
  head : ∀ a m, findN kd a = some (a, m) → HeadOk ds m (ws[a]?.getD 0)
  bd : ∀ i : Nat, inI (ws[i]?.getD 0)

theorem inI_0 : inI 0 := by unfold inI; omega
theorem set_bd {ws : List Int} (h : ∀ i : Nat, inI (ws[i]?.getD 0)) (a : Nat) (x : Int) (hx : inI x) : ∀ i : Nat, inI ((ws.set a x)[i]?.getD 0) := by
  intro i
  by_cases e : a = i
  · subst e
    rcases Nat.lt_or_ge a ws.length with hl | hl
    · rw [set_get_same ws a x hl]; exact hx
    · rw [List.getElem?_eq_none (by simpa using hl)]; exact inI_0
  · rw [set_get_other ws a i x e]; exact h i
theorem fill_bd {ws : List Int} (h : ∀ i : Nat, inI (ws[i]?.getD 0)) (a b : Nat) (hl : a + b ≤ ws.length) : ∀ i : Nat, inI ((fill0 ws a b)[i]?.getD 0) := by
  intro i
  rw [fill0_get ws a b i hl]
  split
  · exact inI_0
  · exact h i

theorem HeadOk.more {ds : List (Int × List Int)} {m : Nat} {x : Int} (h : HeadOk ds m x) (d : Int × List Int) : HeadOk (ds ++ [d]) m x := by
  obtain ⟨k, c, l, f, h1, h2, h3⟩ := h
  refine ⟨k, c, l, f, h1, h2, fun e => ?_⟩
  obtain ⟨i, L, e1, e2⟩ := h3 e
  have hi : i < ds.length := by
    rcases Nat.lt_or_ge i ds.length with hi | hi
    · exact hi
    · rw [List.getElem?_eq_none hi] at e2; cases e2
  exact ⟨i, L, e1, by rw [List.getElem?_append_left hi]; exact e2⟩
theorem OB.add {kd : List PK} {ws : List Int} {ds : List (Int × List Int)} (h : OB kd ws ds) (d : Int × List Int) : OB kd ws (ds ++ [d]) := ⟨fun a m e => (h.head a m e).more d, h.bd⟩

theorem OB.fresh (n : Nat) (hn : 1 ≤ n) : OB (freshK n) (zeros (64 * n)) [] :=
  ⟨fun a m e => (by rw [freshK_find n a hn] at e; cases e), fun i => (by rw [zeros_get]; exact inI_0)⟩

/-- Two blocks share no word. -/
theorem WF.apart {kd : List PK} (h : WF kd) {a m b n x : Nat} (ha : findN kd a = some (a, m)) (hb : findN kd b = some (b, n)) (h1 : a ≤ x) (h2 : x < a + m) (h3 : b ≤ x) (h4 : x < b + n) : a = b ∧ m = n := by
  obtain ⟨_, _, _, _, _, e1⟩ := h.found ha
  obtain ⟨_, _, _, _, _, e2⟩ := h.found hb
  have := (e1 x h1 h2).symm.trans (e2 x h3 h4)
  simpa using this

/-- A word that is no head is written. -/
theorem OB.field {kd : List PK} {ws : List Int} {ds : List (Int × List Int)} (h : OB kd ws ds) (hw : WF kd) {a m i : Nat} (ha : findN kd a = some (a, m)) (h1 : a < i) (h2 : i < a + m) (x : Int) (hx : inI x) : OB kd (ws.set i x) ds := by
  refine ⟨fun b n e => ?_, set_bd h.bd i x hx⟩
  rw [set_get_other ws i b x (fun e' => by
    subst e'
    obtain ⟨g1, g2, _⟩ := hw.found e
    obtain ⟨rfl, _⟩ := hw.apart ha e (by omega) h2 g1 g2
    omega)]
  exact h.head b n e
/-- A head is written. -/
theorem OB.setHead {kd : List PK} {ws : List Int} {ds : List (Int × List Int)} (h : OB kd ws ds) {a m : Nat} (ha : findN kd a = some (a, m)) (hl : a < ws.length) (x : Int) (hx : HeadOk ds m x) (hi : inI x) : OB kd (ws.set a x) ds := by
  refine ⟨fun b n e => ?_, set_bd h.bd a x hi⟩
  by_cases hb : a = b
  · subst hb
    rw [set_get_same ws a x hl]
    rw [ha] at e
    cases e
    exact hx
  · rw [set_get_other ws a b x hb]
    exact h.head b n e
/-- A block is made, and its head written. -/
theorem OB.make {kd kd' : List PK} {ws : List Int} {ds : List (Int × List Int)} {n : Int} {a b : Nat} (h : OB kd ws ds) (hw : WF kd) (hl : ws.length = 64 * kd.length) (hr : AllocR kd n (some (a, kd'))) (hb : blockI n = b) (x : Int) (hx : HeadOk ds b x) (hi : inI x) : OB kd' ((fill0 ws a b).set a x) ds := by
  obtain ⟨b', hb', h1, h2, h3, h4, h5, h6, h7⟩ := hr.spec hw
  obtain rfl : b = b' := by rw [hb] at hb'; omega
  have hfl := fill0_length ws a b (by omega)
  refine ⟨fun c m e => ?_, set_bd (fill_bd h.bd a b (by omega)) a x hi⟩
  rw [h7 c] at e
  split at e
  · cases e
    rw [set_get_same _ _ _ (by omega)]
    exact hx
  · have hca : a ≠ c := by omega
    rw [set_get_other _ _ _ _ hca, fill0_get _ _ _ _ (by omega), if_neg (by assumption)]
    exact h.head c m e
/-- A block is freed. -/
theorem OB.free {kd kd' : List PK} {ws : List Int} {ds : List (Int × List Int)} {a m : Nat} (h : OB kd ws ds) (hw : WF kd) (hf : findN kd a = some (a, m)) (hr : FreeR kd a kd') : OB kd' ws ds := by
  obtain ⟨_, _, h3⟩ := hr.spec hw hf
  refine ⟨fun c n e => ?_, h.bd⟩
  rw [h3 c] at e
  split at e
  · cases e
  · exact h.head c n e

/-- An object at a: its head. -/
def At (kd : List PK) (ws : List Int) (a : Int) (b m : Nat) (k c l : Int) (f : Bool) : Prop := a = (b : Int) ∧ findN kd b = some (b, m) ∧ Word (ws[b]?.getD 0) k c l f
/-- No block begins at a. -/
def NotAt (kd : List PK) (a : Int) : Prop := ∀ s n, findI kd a = some (s, n) → (s : Int) ≠ a
theorem at_or {kd : List PK} {ws : List Int} {ds : List (Int × List Int)} (h : OB kd ws ds) (a : Int) : (∃ b m k c l f, At kd ws a b m k c l f ∧ l + 1 ≤ m ∧ (k = 1 → ∃ (i : Nat) (L : List Int), c = (i : Int) + 1 ∧ ds[i]? = some (l, L))) ∨ NotAt kd a := by
  by_cases e : ∃ s n, findI kd a = some (s, n) ∧ (s : Int) = a
  · obtain ⟨s, n, h1, h2⟩ := e
    have h3 : findN kd s = some (s, n) := by
      unfold findI at h1
      rw [if_neg (by omega), ← h2, Int.toNat_natCast] at h1
      exact h1
    obtain ⟨k, c, l, f, g1, g2, g3⟩ := h.head s n h3
    exact .inl ⟨s, n, k, c, l, f, ⟨h2.symm, h3, g1⟩, g2, g3⟩
  · exact .inr (fun s n e1 e2 => e ⟨s, n, e1, e2⟩)

end Go.Proofs.Ytjlbfojbgnhhbaa

/-
  What Alloc and Free answer and leave, whatever is asked: plain facts.
-/
namespace Go.Proofs.Ytjlbfojbgnhhbaa
open Go.RowKit

/-- What Alloc answers and leaves. -/
inductive AllocT (kd : List PK) (ws : List Int) (n : Int) : Int → Int → List Int → List PK → Prop
  | arg : blockI n = 0 → AllocT kd ws n 0 1 ws kd
  | no : blockI n ≠ 0 → AllocR kd n none → AllocT kd ws n 0 3 ws kd
  | yes (a b : Nat) (kd' : List PK) : AllocR kd n (some (a, kd')) → blockI n = b → AllocT kd ws n a 0 (fill0 ws a b) kd'
theorem allocT_ex {kd : List PK} (ws : List Int) (n : Int) (hw : WF kd) : ∃ N E ws' kd', AllocT kd ws n N E ws' kd' := by
  by_cases hb : blockI n = 0
  · exact ⟨_, _, _, _, .arg hb⟩
  · obtain ⟨r, hr⟩ := alloc_ex kd n hb
    cases r with
    | none => exact ⟨_, _, _, _, .no hb hr⟩
    | some r =>
      obtain ⟨a, kd'⟩ := r
      obtain ⟨b, hb', _⟩ := hr.spec hw
      exact ⟨_, _, _, _, .yes a b kd' hr hb'⟩
theorem AllocT.spec {kd kd' : List PK} {ws ws' : List Int} {n N E : Int} (h : AllocT kd ws n N E ws' kd') (hw : WF kd) (hl : ws.length = 64 * kd.length) :
    WF kd' ∧ kd'.length = kd.length ∧ ws'.length = ws.length ∧ (E = 0 ∧ (∃ a : Nat, N = a ∧ a < ws.length) ∨ (E = 1 ∨ E = 3) ∧ N = 0) := by
  cases h with
  | arg h => exact ⟨hw, rfl, rfl, .inr ⟨.inl rfl, rfl⟩⟩
  | no h hr => exact ⟨hw, rfl, rfl, .inr ⟨.inr rfl, rfl⟩⟩
  | yes a b kd' hr hb =>
    obtain ⟨b', hb', h1, h2, h3, h4, h5, _⟩ := hr.spec hw
    obtain rfl : b = b' := by rw [hb] at hb'; omega
    exact ⟨h2, h3, fill0_length _ _ _ (by omega), .inl ⟨rfl, a, rfl, by omega⟩⟩
/-- What Free answers and leaves. -/
inductive FreeT (kd : List PK) (a : Int) : Int → List PK → Prop
  | no : (∀ s n, findI kd a = some (s, n) → (s : Int) ≠ a) → FreeT kd a 2 kd
  | yes (b m : Nat) (kd' : List PK) : a = b → findN kd b = some (b, m) → FreeR kd b kd' → FreeT kd a 0 kd'
theorem freeT_ex {kd : List PK} (a : Int) (hw : WF kd) : ∃ E kd', FreeT kd a E kd' := by
  by_cases h : ∃ s n, findI kd a = some (s, n) ∧ (s : Int) = a
  · obtain ⟨s, n, h1, h2⟩ := h
    have h3 : findN kd s = some (s, n) := by
      unfold findI at h1
      rw [if_neg (by omega), ← h2, Int.toNat_natCast] at h1
      exact h1
    obtain ⟨kd', hr⟩ := FreeR.ex hw h3
    exact ⟨_, _, .yes s n kd' h2.symm h3 hr⟩
  · exact ⟨_, _, .no (fun s n e e' => h ⟨s, n, e, e'⟩)⟩
theorem FreeT.spec {kd kd' : List PK} {a E : Int} (h : FreeT kd a E kd') (hw : WF kd) : WF kd' ∧ kd'.length = kd.length := by
  cases h with
  | no h => exact ⟨hw, rfl⟩
  | yes b m kd' e hf hr => exact ⟨(hr.spec hw hf).1, (hr.spec hw hf).2.1⟩

theorem each_fresh (n : Nat) (h : 1 ≤ n) : eachK (freshK n) = [] := by
  rw [List.eq_nil_iff_forall_not_mem]
  intro x hx
  obtain ⟨p, _, hm⟩ := eachTo_mem _ _ x hx
  rw [freshK_at n p h] at hm
  split at hm <;> cases hm
theorem used_fresh (n : Nat) (h : 1 ≤ n) : usedK (freshK n) = 0 := by unfold usedK; rw [each_fresh n h]; rfl

end Go.Proofs.Ytjlbfojbgnhhbaa

/-
  What the calls of a heap answer and leave, whatever is asked: plain facts.
-/
namespace Go.Proofs.Ytjlbfojbgnhhbaa
open Go.RowKit

/-- What its numbers are: every block has an object. -/
structure Fine (ws : List Int) (kd : List PK) (ds : List (Int × List Int)) : Prop where
  wf : WF kd
  ob : OB kd ws ds
  few : ds.length ≤ 256
  len : ws.length = 64 * kd.length

theorem room_ge (n : Int) (h1 : 1 ≤ n) (h2 : n ≤ 1024) : n ≤ blockI n := by
  unfold blockI classI pagesI sizesL
  repeat' split
  all_goals (simp at *; try omega)
theorem class_in {ds : List (Int × List Int)} {c : Int} (h1 : 1 ≤ c) (h2 : c ≤ ds.length) : ∃ (i : Nat) (d : Int × List Int), c = (i : Int) + 1 ∧ ds[i]? = some d := by
  have h3 : (c - 1).toNat < ds.length := by omega
  exact ⟨(c - 1).toNat, ds[(c - 1).toNat], by omega, by simp⟩

/-- Whether a block begins at a. -/
def isAt (kd : List PK) (a : Int) : Bool := match findI kd a with | some (s, _) => (s : Int) == a | none => false
theorem find_nat (kd : List PK) (b : Nat) : findI kd (b : Int) = findN kd b := by unfold findI; rw [if_neg (by omega), Int.toNat_natCast]
theorem isAt_yes {kd : List PK} {ws : List Int} {a k c l : Int} {b m : Nat} {f : Bool} (h : At kd ws a b m k c l f) : isAt kd a = true := by
  obtain ⟨rfl, h1, _⟩ := h
  unfold isAt
  rw [find_nat, h1]
  simp
theorem isAt_no {kd : List PK} {a : Int} (h : NotAt kd a) : isAt kd a = false := by
  unfold isAt
  cases e : findI kd a with
  | none => rfl
  | some o => obtain ⟨s, n⟩ := o; simpa using h s n e

/-- What Head answers. -/
inductive HeadT (kd : List PK) (ws : List Int) (a : Int) : Int → Int → Int → Bool → Int → Prop
  | no : NotAt kd a → HeadT kd ws a 0 0 0 false 2
  | yes (b m : Nat) (k c l : Int) (f : Bool) : At kd ws a b m k c l f → HeadT kd ws a k c l f 0
theorem headT_ex {kd : List PK} {ws : List Int} {ds : List (Int × List Int)} (h : OB kd ws ds) (a : Int) : ∃ k c l f E, HeadT kd ws a k c l f E := by
  rcases at_or h a with ⟨b, m, k, c, l, f, h1, _⟩ | h1
  · exact ⟨_, _, _, _, _, .yes b m k c l f h1⟩
  · exact ⟨_, _, _, _, _, .no h1⟩
theorem Word.bd {x k c l : Int} {f : Bool} (h : Word x k c l f) : 1 ≤ k ∧ k ≤ 4 ∧ 0 ≤ c ∧ c ≤ 256 ∧ 0 ≤ l ∧ l ≤ 1023 := mayH_bd h.1

/-- Where a field lies. -/
inductive PlaceT (kd : List PK) (ws : List Int) (a i : Int) : Nat → Int → Prop
  | none : NotAt kd a → PlaceT kd ws a i 0 2
  | arg (b m : Nat) (k c l : Int) (f : Bool) : At kd ws a b m k c l f → ¬ (0 ≤ i ∧ i < l) → PlaceT kd ws a i 0 1
  | yes (b m j : Nat) (k c l : Int) (f : Bool) : At kd ws a b m k c l f → i = j → (j : Int) < l → l + 1 ≤ m → PlaceT kd ws a i (b + 1 + j) 0
theorem placeT_ex {kd : List PK} {ws : List Int} {ds : List (Int × List Int)} (h : OB kd ws ds) (a i : Int) : ∃ p E, PlaceT kd ws a i p E := by
  rcases at_or h a with ⟨b, m, k, c, l, f, h1, h2, _⟩ | h1
  · by_cases hi : 0 ≤ i ∧ i < l
    · obtain ⟨j, rfl⟩ := Int.eq_ofNat_of_zero_le hi.1
      exact ⟨_, _, .yes b m j k c l f h1 rfl hi.2 h2⟩
    · exact ⟨_, _, .arg b m k c l f h1 hi⟩
  · exact ⟨_, _, .none h1⟩
theorem At.facts {kd : List PK} {ws : List Int} {a k c l : Int} {b m : Nat} {f : Bool} (h : At kd ws a b m k c l f) (hw : WF kd) : a = b ∧ 64 ≤ b ∧ b + m ≤ 64 * kd.length ∧ m ≤ 1024 ∧ 1 ≤ m ∧ kd.length ≤ 256 := by
  obtain ⟨e, h1, _⟩ := h
  obtain ⟨g1, g2, g3, g4, g5, _⟩ := hw.found h1
  exact ⟨e, g3, g4, g5, by omega, hw.len2⟩
/-- What Field answers. -/
inductive FieldT (kd : List PK) (ws : List Int) (a i : Int) : Int → Int → Prop
  | no (E : Int) : PlaceT kd ws a i 0 E → E = 1 ∨ E = 2 → FieldT kd ws a i 0 E
  | yes (p : Nat) : PlaceT kd ws a i p 0 → p < ws.length → FieldT kd ws a i (ws[p]?.getD 0) 0
/-- What Put answers and leaves. -/
inductive PutT (kd : List PK) (ws : List Int) (a i x : Int) : Int → List Int → Prop
  | no (E : Int) : PlaceT kd ws a i 0 E → E = 1 ∨ E = 2 → PutT kd ws a i x E ws
  | yes (p : Nat) : PlaceT kd ws a i p 0 → p < ws.length → PutT kd ws a i x 0 (ws.set p x)
theorem PlaceT.or {kd : List PK} {ws : List Int} {a i E : Int} {p : Nat} (h : PlaceT kd ws a i p E) (hw : WF kd) (hl : ws.length = 64 * kd.length) : (p = 0 ∧ (E = 1 ∨ E = 2)) ∨ (E = 0 ∧ p < ws.length) := by
  cases h with
  | none h => exact .inl ⟨rfl, .inr rfl⟩
  | arg b m k c l f h h' => exact .inl ⟨rfl, .inl rfl⟩
  | yes b m j k c l f h h1 h2 h3 =>
    have := h.facts hw
    exact .inr ⟨rfl, by omega⟩
theorem fieldT_ex {kd : List PK} {ws : List Int} {ds : List (Int × List Int)} (h : Fine ws kd ds) (a i : Int) : ∃ N E, FieldT kd ws a i N E := by
  obtain ⟨p, E, hp⟩ := placeT_ex h.ob a i
  rcases hp.or h.wf h.len with ⟨rfl, e⟩ | ⟨rfl, e⟩
  · exact ⟨_, _, .no E hp e⟩
  · exact ⟨_, _, .yes p hp e⟩
theorem putT_ex {kd : List PK} {ws : List Int} {ds : List (Int × List Int)} (h : Fine ws kd ds) (a i x : Int) : ∃ E ws', PutT kd ws a i x E ws' := by
  obtain ⟨p, E, hp⟩ := placeT_ex h.ob a i
  rcases hp.or h.wf h.len with ⟨rfl, e⟩ | ⟨rfl, e⟩
  · exact ⟨_, _, .no E hp e⟩
  · exact ⟨_, _, .yes p hp e⟩
theorem PutT.fine {kd : List PK} {ws ws' : List Int} {ds : List (Int × List Int)} {a i x E : Int} (h : PutT kd ws a i x E ws') (hf : Fine ws kd ds) (hx : inI x) : Fine ws' kd ds := by
  cases h with
  | no E h _ => exact hf
  | yes p h hp =>
    cases h with
    | yes b m j k c l f h h1 h2 h3 =>
      exact ⟨hf.wf, hf.ob.field hf.wf h.2.1 (by omega) (by omega) x hx, hf.few, by rw [List.length_set]; exact hf.len⟩

/-- What Final answers and leaves. -/
inductive FinalT (kd : List PK) (ws : List Int) (a : Int) : Int → List Int → Prop
  | none : NotAt kd a → FinalT kd ws a 2 ws
  | kind (b m : Nat) (c l : Int) (f : Bool) : At kd ws a b m 4 c l f → FinalT kd ws a 5 ws
  | has (b m : Nat) (k c l : Int) : At kd ws a b m k c l true → k ≠ 4 → FinalT kd ws a 4 ws
  | yes (b m : Nat) (k c l : Int) : At kd ws a b m k c l false → k ≠ 4 → FinalT kd ws a 0 (ws.set b (putH k c l true))
theorem finalT_ex {kd : List PK} {ws : List Int} {ds : List (Int × List Int)} (h : OB kd ws ds) (a : Int) : ∃ E ws', FinalT kd ws a E ws' := by
  rcases at_or h a with ⟨b, m, k, c, l, f, h1, h2, _⟩ | h1
  · by_cases hk : k = 4
    · subst hk; exact ⟨_, _, .kind b m c l f h1⟩
    · cases f
      · exact ⟨_, _, .yes b m k c l h1 hk⟩
      · exact ⟨_, _, .has b m k c l h1 hk⟩
  · exact ⟨_, _, .none h1⟩
theorem may_final {k c l : Int} (h : mayH k c l false = true) (hk : k ≠ 4) : mayH k c l true = true := by
  unfold mayH at *; simp at h ⊢; omega
theorem put_in {k c l : Int} {f : Bool} (h : mayH k c l f = true) : inI (putH k c l f) := by
  have := mayH_bd h
  unfold inI putH
  split <;> omega
theorem FinalT.fine {kd : List PK} {ws ws' : List Int} {ds : List (Int × List Int)} {a E : Int} (h : FinalT kd ws a E ws') (hf : Fine ws kd ds) : Fine ws' kd ds := by
  cases h with
  | none h => exact hf
  | kind b m c l f h => exact hf
  | has b m k c l h hk => exact hf
  | yes b m k c l h hk =>
    obtain ⟨_, e1, e2, e3, e4, e5⟩ := h.facts hf.wf
    have hm := may_final h.2.2.1 hk
    refine ⟨hf.wf, hf.ob.setHead h.2.1 (by have := hf.len; omega) _ ?_ (put_in hm), hf.few, by rw [List.length_set]; exact hf.len⟩
    obtain ⟨k', c', l', f', g1, g2, g3⟩ := hf.ob.head b m h.2.1
    obtain ⟨_, _, p1, p2, p3, p4⟩ := g1.parts
    obtain ⟨_, _, q1, q2, q3, q4⟩ := h.2.2.parts
    obtain rfl : k = k' := by rw [← p1, ← q1]
    obtain rfl : c = c' := by rw [← p2, ← q2]
    obtain rfl : l = l' := by rw [← p3, ← q3]
    exact ⟨k, c, l, true, ⟨hm, rfl⟩, g2, g3⟩

/-- The first numbers. -/
def upL (l : Int) : List Int := (List.range l.toNat).map (fun i : Nat => (i : Int))
theorem upL_length (l : Int) : (upL l).length = l.toNat := by simp [upL]
theorem upL_get (l : Int) (i : Nat) (h : i < l.toNat) : (upL l)[i]?.getD 0 = i := by simp [upL, h]
/-- What Refs answers. -/
inductive RefsT (kd : List PK) (ws : List Int) (ds : List (Int × List Int)) (a : Int) : List Int → Prop
  | none : NotAt kd a → RefsT kd ws ds a []
  | plain (b m i : Nat) (c l : Int) (f : Bool) (L : List Int) : At kd ws a b m 1 c l f → c = (i : Int) + 1 → ds[i]? = some (l, L) → RefsT kd ws ds a L
  | refs (b m : Nat) (c l : Int) (f : Bool) : At kd ws a b m 2 c l f → RefsT kd ws ds a (upL l)
  | data (b m : Nat) (c l : Int) (f : Bool) : At kd ws a b m 3 c l f → RefsT kd ws ds a []
  | ref (b m : Nat) (c l : Int) (f : Bool) : At kd ws a b m 4 c l f → RefsT kd ws ds a [2]
theorem refsT_ex {kd : List PK} {ws : List Int} {ds : List (Int × List Int)} (h : OB kd ws ds) (a : Int) : ∃ L, RefsT kd ws ds a L := by
  rcases at_or h a with ⟨b, m, k, c, l, f, h1, h2, h3⟩ | h1
  · have hb := h1.2.2.bd
    rcases (show k = 1 ∨ k = 2 ∨ k = 3 ∨ k = 4 by omega) with rfl | rfl | rfl | rfl
    · obtain ⟨i, L, e1, e2⟩ := h3 rfl
      exact ⟨_, .plain b m i c l f L h1 e1 e2⟩
    · exact ⟨_, .refs b m c l f h1⟩
    · exact ⟨_, .data b m c l f h1⟩
    · exact ⟨_, .ref b m c l f h1⟩
  · exact ⟨_, .none h1⟩

/-- Whether an object may be made, but for room: the error. -/
inductive FitsT (ds : List (Int × List Int)) (k c l : Int) : Int → Prop
  | other : k ≠ 1 → FitsT ds k c l 0
  | none : k = 1 → c < 1 ∨ (ds.length : Int) < c → FitsT ds k c l 2
  | arg (i : Nat) (n : Int) (L : List Int) : k = 1 → c = (i : Int) + 1 → ds[i]? = some (n, L) → l ≠ n → FitsT ds k c l 1
  | yes (i : Nat) (L : List Int) : k = 1 → c = (i : Int) + 1 → ds[i]? = some (l, L) → FitsT ds k c l 0
theorem fitsT_ex (ds : List (Int × List Int)) (k c l : Int) : ∃ E, FitsT ds k c l E := by
  by_cases hk : k = 1
  · by_cases hc : c < 1 ∨ (ds.length : Int) < c
    · exact ⟨_, .none hk hc⟩
    · obtain ⟨i, ⟨n, L⟩, e1, e2⟩ := class_in (ds := ds) (c := c) (by omega) (by omega)
      by_cases hl : l = n
      · subst hl; exact ⟨_, .yes i L hk e1 e2⟩
      · exact ⟨_, .arg i n L hk e1 e2 hl⟩
  · exact ⟨_, .other hk⟩
theorem FitsT.errs {ds : List (Int × List Int)} {k c l E : Int} (h : FitsT ds k c l E) : E = 0 ∨ E = 1 ∨ E = 2 := by
  cases h <;> simp
/-- What Make answers and leaves. -/
inductive MakeT (kd : List PK) (ws : List Int) (ds : List (Int × List Int)) (k c l : Int) (f : Bool) : Int → Int → List Int → List PK → Prop
  | arg : (mayH k c l f && !f) = false → MakeT kd ws ds k c l f 0 1 ws kd
  | fits (E : Int) : mayH k c l f = true → f = false → FitsT ds k c l E → E ≠ 0 → MakeT kd ws ds k c l f 0 E ws kd
  | full : mayH k c l f = true → f = false → FitsT ds k c l 0 → AllocR kd (l + 1) none → MakeT kd ws ds k c l f 0 3 ws kd
  | yes (a b : Nat) (kd' : List PK) : mayH k c l f = true → f = false → FitsT ds k c l 0 → AllocR kd (l + 1) (some (a, kd')) → blockI (l + 1) = b → MakeT kd ws ds k c l f a 0 ((fill0 ws a b).set a (putH k c l false)) kd'
theorem makeT_ex {kd : List PK} (ws : List Int) (ds : List (Int × List Int)) (k c l : Int) (f : Bool) (hw : WF kd) : ∃ N E ws' kd', MakeT kd ws ds k c l f N E ws' kd' := by
  cases hm : mayH k c l f
  · exact ⟨_, _, _, _, .arg (by rw [hm]; rfl)⟩
  · cases f
    · obtain ⟨E, hE⟩ := fitsT_ex ds k c l
      by_cases e : E = 0
      · subst e
        have hb := mayH_bd hm
        have hg := room_ge (l + 1) (by omega) (by omega)
        obtain ⟨r, hr⟩ := alloc_ex kd (l + 1) (by omega)
        cases r with
        | none => exact ⟨_, _, _, _, .full hm rfl hE hr⟩
        | some r =>
          obtain ⟨a, kd'⟩ := r
          obtain ⟨b, hb', _⟩ := hr.spec hw
          exact ⟨_, _, _, _, .yes a b kd' hm rfl hE hr hb'⟩
      · exact ⟨_, _, _, _, .fits E hm rfl hE e⟩
    · exact ⟨_, _, _, _, .arg (by simp)⟩
theorem MakeT.fine {kd kd' : List PK} {ws ws' : List Int} {ds : List (Int × List Int)} {k c l N E : Int} {f : Bool} (h : MakeT kd ws ds k c l f N E ws' kd') (hf : Fine ws kd ds) : Fine ws' kd' ds ∧ kd'.length = kd.length := by
  cases h with
  | arg h => exact ⟨hf, rfl⟩
  | fits E _ _ _ _ => exact ⟨hf, rfl⟩
  | full _ _ _ _ => exact ⟨hf, rfl⟩
  | yes a b kd' hm e hF hr hb =>
    subst e
    obtain ⟨b', hb', h1, h2, h3, h4, h5, h6, h7⟩ := hr.spec hf.wf
    obtain rfl : b = b' := by rw [hb] at hb'; omega
    have hbd := mayH_bd hm
    have hg := room_ge (l + 1) (by omega) (by omega)
    refine ⟨⟨h2, hf.ob.make hf.wf hf.len hr hb _ ⟨k, c, l, false, ⟨hm, rfl⟩, by omega, fun e => ?_⟩ (put_in hm), hf.few, by rw [List.length_set, fill0_length _ _ _ (by have := hf.len; omega), h3]; exact hf.len⟩, h3⟩
    cases hF with
    | other h => exact absurd e h
    | yes i L _ e1 e2 => exact ⟨i, L, e1, e2⟩
theorem FreeT.fine {kd kd' : List PK} {ws : List Int} {ds : List (Int × List Int)} {a E : Int} (h : FreeT kd a E kd') (hf : Fine ws kd ds) : Fine ws kd' ds := by
  cases h with
  | no h => exact hf
  | yes b m kd' e hF hr => exact ⟨(hr.spec hf.wf hF).1, hf.ob.free hf.wf hF hr, hf.few, by rw [(hr.spec hf.wf hF).2.1]; exact hf.len⟩
theorem Fine.fresh (n : Nat) (h1 : 1 ≤ n) (h2 : n ≤ 256) : Fine (zeros (64 * n)) (freshK n) [] := ⟨freshK_wf n h1 h2, OB.fresh n h1, by simp, by rw [zeros_length, freshK_length]⟩

end Go.Proofs.Ytjlbfojbgnhhbaa

/-
  New, Alloc and Free of package space.
-/
namespace Go.Proofs.Ytjlbfojbgnhhbaa
open Go.RowKit

theorem Try.infoPage : (Try.prog.info? 107).map (fun i => (i.zero, i.size, i.bytes)) = some (some (.pointer none), 1, 8) := by kernel_rfl

/-- A row of nils. -/
def nils (n : Nat) : List Value := List.replicate n (.pointer none)
theorem nils_made (n : Nat) : madeCells #[.pointer none] n = (nils n).toArray := by
  apply Array.toList_inj.1
  rw [toList_madeCells_one]
  simp [nils]
theorem nils_ptrs (n : Nat) (L : Lay) : nils n = ptrs L (freshK n) := by
  apply List.ext_getElem?
  intro q
  rcases Nat.lt_or_ge q n with hq | hq
  · rw [ptrs_get L (freshK n) q (by rw [freshK_length]; exact hq), freshK_at n q (by omega)]
    unfold nils
    rw [List.getElem?_replicate, if_pos hq]
    split <;> rfl
  · rw [List.getElem?_eq_none (by simpa [nils] using hq), List.getElem?_eq_none (by rw [ptrs_length, freshK_length]; exact hq)]

set_option maxHeartbeats 1000000 in
theorem snew_no (n : Int) (w : World) (h : ¬ (1 ≤ n ∧ n ≤ 256)) :
    Calls Try.prog 35 #[.int .i64 n] w fun e w' => e = .returned (.tuple #[.pointer none, .int .i64 1]) ∧ w = w' := by
  go_enter Try.func35, Try.ntmps35
  go_wp2_with (go_at_call 44; refine (new_no _ _ h).mono ?_; rintro e w' ⟨rfl, rfl⟩)
  go_ret2
  exact ⟨rfl, rfl⟩

/-- What New makes, whichever of its rows is made first. -/
theorem snew_is (w wz : World) (n sb ab ag pb b g gs gl : Nat) (hn : 1 ≤ n) (hA : IsArena wz ab ag (zeros (n * 64))) (hP : IsPages wz pb b g (fresh n)) (hd : wz.heap[sb]? = some (.cells #[.pointer (some ⟨ab, 0, none⟩), .pointer (some ⟨pb, 0, none⟩), .slice (some ⟨gs, 0, none⟩) n n, .slice (some ⟨gl, 0, none⟩) n n] 70 (0, 0)))
    (hs : wz.heap[gs]? = some (.cells (nils n).toArray 107 (0, 0))) (hl : Row wz 3 gl (zeros n)) (hK : Keep [] w wz)
    (g1 : w.heap.size ≤ ab ∧ w.heap.size ≤ ag ∧ w.heap.size ≤ pb ∧ w.heap.size ≤ b ∧ w.heap.size ≤ g ∧ w.heap.size ≤ gs ∧ w.heap.size ≤ gl ∧ w.heap.size ≤ sb)
    (ho : (ab < pb ∧ ab < b ∧ ab < g) ∧ (ag < pb ∧ ag < b ∧ ag < g) ∧ (pb < gs ∧ b < gs ∧ g < gs) ∧ (pb < gl ∧ b < gl ∧ g < gl) ∧ gs ≠ gl ∧ gs < sb ∧ gl < sb) :
    ∃ F, IsSpace wz sb F (zeros (64 * n)) (freshK n) ∧ Keep [] w wz ∧ sb ∈ F ∧ ∀ k, k ∈ F → w.heap.size ≤ k := by
  have n1 := hA.ne
  have n2 := hP.ne1
  have n3 := hP.ne2
  have n4 := hP.bits.ne
  have l1 := hA.lt
  have l2 := hP.lt
  have l3 := lt_of_block hd
  have l4 := lt_of_block hs
  have l5 := hl.lt
  let r : Nat → Nat := fun k => if k = sb then 0 else if k = ab then 1 else if k = ag then 2 else if k = pb then 3 else if k = b then 4 else if k = g then 5 else if k = gs then 6 else 7
  have none : ∀ p c xs, kat (freshK n) p ≠ .small c xs := by
    intro p c xs e
    rw [freshK_at n p hn] at e
    split at e <;> cases e
  refine ⟨[sb, ab, ag, pb, b, g, gs, gl], ⟨⟨ab, ag, pb, b, g, gs, gl, fun _ => (0, 0, 0), r⟩, ?_⟩, hK, by simp, fun k hk => ?_⟩
  · exact {
      head := by rw [freshK_length]; exact hd
      arena := by rw [Nat.mul_comm]; exact hA
      pages := by rw [freshK_taken n hn]; exact hP
      rowS := by rw [← nils_ptrs]; exact hs
      rowL := by rw [freshK_big n hn]; exact hl
      page := fun p c xs e => absurd e (none p c xs)
      len := by rw [zeros_length, freshK_length]
      r0 := if_pos rfl
      r1 := by show (if ab = sb then _ else if ab = ab then _ else _) = _; rw [if_neg (by omega), if_pos rfl]
      r2 := by show (if ag = sb then _ else if ag = ab then _ else if ag = ag then _ else _) = _; rw [if_neg (by omega), if_neg (by omega), if_pos rfl]
      r3 := by show r pb = _; simp only [r]; rw [if_neg (by omega), if_neg (by omega), if_neg (by omega), if_pos trivial]
      r4 := by show r b = _; simp only [r]; rw [if_neg (by omega), if_neg (by omega), if_neg (by omega), if_neg (by omega), if_pos trivial]
      r5 := by show r g = _; simp only [r]; rw [if_neg (by omega), if_neg (by omega), if_neg (by omega), if_neg (by omega), if_neg (by omega), if_pos trivial]
      r6 := by show r gs = _; simp only [r]; rw [if_neg (by omega), if_neg (by omega), if_neg (by omega), if_neg (by omega), if_neg (by omega), if_neg (by omega), if_pos trivial]
      r7 := by show r gl = _; simp only [r]; rw [if_neg (by omega), if_neg (by omega), if_neg (by omega), if_neg (by omega), if_neg (by omega), if_neg (by omega), if_neg (by omega)]
      rp := fun p c xs e => absurd e (none p c xs)
      f := by simp
      fp := fun p c xs e => absurd e (none p c xs)
      lt := by
        intro k hk
        simp only [List.mem_cons, List.not_mem_nil, or_false] at hk
        omega }
  · simp only [List.mem_cons, List.not_mem_nil, or_false] at hk
    omega

theorem three_new (w : World) (o1 o2 o3 : Obj) : (((w.alloc o1).alloc o2).alloc o3).drew.heap[w.heap.size]? = some o1 ∧ (((w.alloc o1).alloc o2).alloc o3).drew.heap[w.heap.size + 1]? = some o2 ∧
    (((w.alloc o1).alloc o2).alloc o3).drew.heap[w.heap.size + 1 + 1]? = some o3 ∧ Keep [] w (((w.alloc o1).alloc o2).alloc o3).drew := by
  have k1 := Keep.alloc [] w o1
  have k2 := Keep.alloc [] (w.alloc o1) o2
  have k3 := Keep.alloc [] ((w.alloc o1).alloc o2) o3
  have k4 := Keep.drew [] (((w.alloc o1).alloc o2).alloc o3)
  have e1 := heap_alloc_new w o1
  have e2 := heap_alloc_new (w.alloc o1) o2
  have e3 := heap_alloc_new ((w.alloc o1).alloc o2) o3
  have z1 : (w.alloc o1).heap.size = w.heap.size + 1 := by simp
  have z2 : ((w.alloc o1).alloc o2).heap.size = w.heap.size + 1 + 1 := by simp
  rw [z1] at e2
  rw [z2] at e3
  exact ⟨k4.blk (k3.blk (k2.blk e1 (by simp)) (by simp)) (by simp), k4.blk (k3.blk e2 (by simp)) (by simp), k4.blk e3 (by simp), ((k1.trans k2).trans k3).trans k4⟩
set_option maxHeartbeats 2000000 in
theorem snew_ok (n : Nat) (w : World) (h1 : 1 ≤ n) (h2 : n ≤ 256) :
    Calls Try.prog 35 #[.int .i64 n] w fun e w' => ∃ sb F, e = .returned (.tuple #[.pointer (some ⟨sb, 0, none⟩), .int .i64 0]) ∧ IsSpace w' sb F (zeros (64 * n)) (freshK n) ∧ Keep [] w w' ∧ sb ∈ F ∧ ∀ k, k ∈ F → w.heap.size ≤ k := by
  have hmk1 : ∀ w, (Instr.makeSlice 25 (.int .i64 (n : Int)) (.int .i64 (n : Int))).run Try.prog w = .ok (.slice (some ⟨w.heap.size, 0, none⟩) n n) (w.alloc (.cells (madeCells #[.int .i64 0] n) 3)) :=
    fun w => run_make_row' (P := Try.prog) 25 3 (.int .i64 0) 8 Try.underlying25 Try.infoInt rfl .i64 .i64 n (by omega) (by omega) w
  have hmk2 : ∀ w, (Instr.makeSlice 68 (.int .i64 (n : Int)) (.int .i64 (n : Int))).run Try.prog w = .ok (.slice (some ⟨w.heap.size, 0, none⟩) n n) (w.alloc (.cells (madeCells #[.pointer none] n) 107)) :=
    fun w => run_make_row' (P := Try.prog) 68 107 (.pointer none) 8 Try.underlying68 Try.infoPage rfl .i64 .i64 n (by omega) (by omega) w
  go_enter Try.func35, Try.ntmps35
  go_wp2_with (first | (go_at_call 44; refine (new_ok n _ h1 h2).mono ?_; rintro e w1 ⟨ab, ag, rfl, hA, hK1, hab, hag⟩) | (go_at_call 45; refine (pnew_ok n _ h1 h2).mono ?_; rintro e w2 ⟨pb, b, g, rfl, hP, hK2, hpb, hb, hg⟩))
  have hA2 := hA.keep hK2 (by simp) (by simp)
  have ltA := hA.lt
  have ltP := hP.lt
  have sz1 := hK1.size
  have sz2 := hK2.size
  have hK3 := hK1.trans hK2
  have hP2 := hP
  clear hA hP hK1 hK2
  have HA := (show Hid (∃ F, IsSpace (((w2.alloc (.cells (madeCells #[.pointer none] n) 107)).alloc (.cells (madeCells #[.int .i64 0] n) 3)).alloc (.cells #[.pointer (some ⟨ab, 0, none⟩), .pointer (some ⟨pb, 0, none⟩), .slice (some ⟨w2.heap.size, 0, none⟩) n n, .slice (some ⟨w2.heap.size + 1, 0, none⟩) n n] 70)).drew (w2.heap.size + 1 + 1) F (zeros (64 * n)) (freshK n) ∧ Keep [] w (((w2.alloc (.cells (madeCells #[.pointer none] n) 107)).alloc (.cells (madeCells #[.int .i64 0] n) 3)).alloc (.cells #[.pointer (some ⟨ab, 0, none⟩), .pointer (some ⟨pb, 0, none⟩), .slice (some ⟨w2.heap.size, 0, none⟩) n n, .slice (some ⟨w2.heap.size + 1, 0, none⟩) n n] 70)).drew ∧ w2.heap.size + 1 + 1 ∈ F ∧ ∀ k, k ∈ F → w.heap.size ≤ k) from by
    obtain ⟨e1, e2, e3, k⟩ := three_new w2 (.cells (madeCells #[.pointer none] n) 107) (.cells (madeCells #[.int .i64 0] n) 3) (.cells #[.pointer (some ⟨ab, 0, none⟩), .pointer (some ⟨pb, 0, none⟩), .slice (some ⟨w2.heap.size, 0, none⟩) n n, .slice (some ⟨w2.heap.size + 1, 0, none⟩) n n] 70)
    refine snew_is w _ n _ ab ag pb b g w2.heap.size (w2.heap.size + 1) h1 (hA2.keep k (by simp) (by simp)) (hP2.keep k (by simp) (by simp) (by simp)) e3 (by rw [← nils_made]; exact e1) ?_ (hK3.trans k) (by omega) (by omega)
    unfold Row; rw [← ints_made]; exact e2)
  have HB := (show Hid (∃ F, IsSpace (((w2.alloc (.cells (madeCells #[.int .i64 0] n) 3)).alloc (.cells (madeCells #[.pointer none] n) 107)).alloc (.cells #[.pointer (some ⟨ab, 0, none⟩), .pointer (some ⟨pb, 0, none⟩), .slice (some ⟨w2.heap.size + 1, 0, none⟩) n n, .slice (some ⟨w2.heap.size, 0, none⟩) n n] 70)).drew (w2.heap.size + 1 + 1) F (zeros (64 * n)) (freshK n) ∧ Keep [] w (((w2.alloc (.cells (madeCells #[.int .i64 0] n) 3)).alloc (.cells (madeCells #[.pointer none] n) 107)).alloc (.cells #[.pointer (some ⟨ab, 0, none⟩), .pointer (some ⟨pb, 0, none⟩), .slice (some ⟨w2.heap.size + 1, 0, none⟩) n n, .slice (some ⟨w2.heap.size, 0, none⟩) n n] 70)).drew ∧ w2.heap.size + 1 + 1 ∈ F ∧ ∀ k, k ∈ F → w.heap.size ≤ k) from by
    obtain ⟨e1, e2, e3, k⟩ := three_new w2 (.cells (madeCells #[.int .i64 0] n) 3) (.cells (madeCells #[.pointer none] n) 107) (.cells #[.pointer (some ⟨ab, 0, none⟩), .pointer (some ⟨pb, 0, none⟩), .slice (some ⟨w2.heap.size + 1, 0, none⟩) n n, .slice (some ⟨w2.heap.size, 0, none⟩) n n] 70)
    refine snew_is w _ n _ ab ag pb b g (w2.heap.size + 1) w2.heap.size h1 (hA2.keep k (by simp) (by simp)) (hP2.keep k (by simp) (by simp) (by simp)) e3 (by rw [← nils_made]; exact e2) ?_ (hK3.trans k) (by omega) (by omega)
    unfold Row; rw [← ints_made]; exact e1)
  clear hA2 hP2 hK3
  go_region
  all_goals
    go_wp2
    go_ret2
    first
    | (obtain ⟨F, hF⟩ := HA.out; exact ⟨_, F, rfl, hF⟩)
    | (obtain ⟨F, hF⟩ := HB.out; exact ⟨_, F, rfl, hF⟩)

end Go.Proofs.Ytjlbfojbgnhhbaa

/-
  Alloc of package space.
-/
namespace Go.Proofs.Ytjlbfojbgnhhbaa
open Go.RowKit

/-- What a space has in memory later on lay there, or is new. -/
def Grows (w : World) (F F' : List Nat) : Prop := ∀ k, k ∈ F' → k ∈ F ∨ w.heap.size ≤ k
theorem Grows.refl (w : World) (F : List Nat) : Grows w F F := fun _ h => .inl h

/-- Page j, as one looks for room of class c. -/
theorem SpAt.look {F : List Nat} {w : World} {sb : Nat} {L : Lay} {ws : List Int} {ts : List Bool} {kd : List PK} (h : SpAt w sb L F ws ts kd) (hw : WF kd) {c j : Nat} (hc : c < 5) (hj : j < kd.length) :
    (w.cell? ⟨L.gs, j, none⟩ = some (.pointer none) ∧ (kat kd j).has c = false) ∨
    (∃ (q1 b g s : Nat) (xs : List Bool), w.cell? ⟨L.gs, j, none⟩ = some (.pointer (some ⟨q1, 0, none⟩)) ∧ IsPage w q1 b g s xs ∧ s ≠ sz c ∧ (kat kd j).has c = false) ∨
    (∃ (q1 b g : Nat) (xs : List Bool), w.cell? ⟨L.gs, j, none⟩ = some (.pointer (some ⟨q1, 0, none⟩)) ∧ IsPage w q1 b g (sz c : Nat) xs ∧ (kat kd j).has c = !allB xs) := by
  have hcs := h.cs hj
  cases e : kat kd j with
  | small d xs =>
    rw [e] at hcs
    obtain ⟨hd, _, _⟩ := hw.small j d xs e
    have hP := h.page j d xs e
    rw [(sz_facts d hd).1] at hP
    by_cases hdc : d = c
    · subst hdc
      exact .inr (.inr ⟨_, _, _, xs, hcs, hP, by simp [PK.has]⟩)
    · refine .inr (.inl ⟨_, _, _, _, xs, hcs, hP, fun e' => hdc (sz_inj d c hd hc e'), by simp [PK.has, hdc]⟩)
  | _ => rw [e] at hcs; exact .inl ⟨hcs, rfl⟩

theorem bool_no {a b : Bool} (h : a = false) (e : a = !b) : b = true := by subst h; cases b <;> simp at e ⊢
theorem bool_yes {a b : Bool} (h : a = true) (e : a = !b) : b = false := by subst h; cases b <;> simp at e ⊢
theorem sizes_at (c : Nat) (h : c < 5) : sizesL[c]?.getD 0 = (sz c : Nat) := (sz_facts c h).1

set_option maxHeartbeats 2000000 in
theorem room_old (sb c p : Nat) (L : Lay) (F : List Nat) (ws : List Int) (ts : List Bool) (kd : List PK) (w : World) (h : SpAt w sb L F ws ts kd) (hw : WF kd) (hc : c < 5) (hp : nextR (hasL c kd) 0 true = p) :
    Calls Try.prog 68 #[.pointer (some ⟨sb, 0, none⟩), .int .i64 c] w fun e w' => e = .returned (.tuple #[.int .i64 p, .int .i64 0]) ∧ Keep [] w w' := by
  obtain ⟨hpl, hpv, hpn⟩ : p < kd.length ∧ (kat kd p).has c = true ∧ ∀ t, t < p → (kat kd t).has c = false := by
    rcases nextR_spec (hasL c kd) true _ 0 rfl with ⟨e, _⟩ | ⟨j, e, _, e2, e3, e4⟩
    · rw [hp] at e; omega
    · obtain rfl : p = j := by rw [hp] at e; omega
      rw [hasL_get] at e3
      rw [hasL_length] at e2
      refine ⟨e2, e3, fun t ht => ?_⟩
      have := e4 t (by omega) ht
      rw [hasL_get] at this
      simpa using this
  obtain ⟨s, hs⟩ : ∃ s, sz c = s := ⟨_, rfl⟩
  have HSZ := (show Hid (sz c = s) from hs)
  have HSL := (show Hid (sizesL[c]?.getD 0 = (s : Nat)) from by show _ = _; rw [sizes_at c hc, hs])
  have hs2 : 2 ≤ s := by rw [← hs]; exact (sz_facts c hc).2.2.1
  obtain ⟨n, hn⟩ : ∃ n, kd.length = n := ⟨_, rfl⟩
  have HN := (show Hid (kd.length = n) from hn)
  have hn2 : n ≤ 256 := by rw [← hn]; exact hw.len2
  rw [hn] at hpl
  have HW := (show Hid (WF kd) from hw)
  have HS := (show Hid (SpAt w sb L F ws ts kd) from h)
  have HPV := (show Hid ((kat kd p).has c = true) from hpv)
  have HPN := (show Hid (∀ t, t < p → (kat kd t).has c = false) from hpn)
  clear hs hn hw h hp hpv hpn
  go_enter Try.func68, Try.ntmps68
  go_wp2_with (go_at_call 60; refine (sizes_any _).mono ?_; rintro e w1 ⟨gz, rfl, hr, hK, hgz⟩; have hx := hr.cell (i := c) hc; rw [HSL.out] at hx; have hS1 := HS.out.keep0 hK; have hc2 := hS1.c2; rw [HN.out] at hc2)
  have HS1 := (show Hid (SpAt w1 sb L F ws ts kd) from hS1)
  clear hS1 hr hx HS
  go_loop [20] (fun i => ∃ j : Nat, i = .int .i64 j ∧ j ≤ p) (fun i => n - (intOf i).toNat)
  case atStart => exact ⟨0, rfl, by omega⟩
  case round =>
    obtain ⟨j, rfl, hj⟩ := hrel
    by_cases hlt : j < p
    · have HF := HPN.out j hlt
      rcases HS1.out.look HW.out hc (j := j) (by rw [HN.out]; omega) with ⟨hcs, _⟩ | ⟨q1, b, g, s', xs, hcs, hP, hne, _⟩ | ⟨q1, b, g, xs, hcs, hP, hh⟩
      · have hd : decide ((0 : Int) = (s : Int)) = false := by rw [decide_eq_false_iff_not]; omega
        clear HF
        go_wp2_with (first | (go_at_call 66; refine (kwords_nil _).mono ?_; rintro e w' ⟨rfl, rfl⟩))
        go_round
        case rel => exact ⟨j + 1, by go_num, by omega⟩
        case measure => simp [intOf]; omega
      · rw [HSZ.out] at hne
        have hd : decide ((s' : Int) = (s : Int)) = false := by rw [decide_eq_false_iff_not]; omega
        clear HF
        go_wp2_with (first | (go_at_call 66; refine (kwords_any q1 b g _ _ _ hP).mono ?_; rintro e w' ⟨rfl, rfl⟩))
        go_round
        case rel => exact ⟨j + 1, by go_num, by omega⟩
        case measure => simp [intOf]; omega
      · rw [HSZ.out] at hP
        have HA := (show Hid (allB xs = true) from bool_no HF hh)
        clear HF hh
        go_wp2_with (first | (go_at_call 66; refine (kwords_any q1 b g _ _ _ hP).mono ?_; rintro e w' ⟨rfl, rfl⟩) | (go_at_call 72; refine (kfull_any q1 b g _ _ _ hP).mono ?_; rw [HA.out]; rintro e w' ⟨rfl, rfl⟩))
        go_round
        case rel => exact ⟨j + 1, by go_num, by omega⟩
        case measure => simp [intOf]; omega
    · obtain rfl : j = p := by omega
      have HF := HPV.out
      rcases HS1.out.look HW.out hc (j := j) (by rw [HN.out]; omega) with ⟨_, hh⟩ | ⟨q1, b, g, s', xs, hcs, hP, hne, hh⟩ | ⟨q1, b, g, xs, hcs, hP, hh⟩
      · rw [HF] at hh; cases hh
      · rw [HF] at hh; cases hh
      · rw [HSZ.out] at hP
        have HA := (show Hid (allB xs = false) from bool_yes HF hh)
        clear HF hh
        go_wp2_with (first | (go_at_call 66; refine (kwords_any q1 b g _ _ _ hP).mono ?_; rintro e w' ⟨rfl, rfl⟩) | (go_at_call 72; refine (kfull_any q1 b g _ _ _ hP).mono ?_; rw [HA.out]; rintro e w' ⟨rfl, rfl⟩))
        go_ret2
        exact ⟨rfl, hK⟩

theorem none_has {c : Nat} {kd : List PK} (h : nextR (hasL c kd) 0 true = -1) : ∀ t, (kat kd t).has c = false := by
  intro t
  rcases nextR_spec (hasL c kd) true _ 0 rfl with ⟨_, e⟩ | ⟨j, e, _⟩
  · rcases Nat.lt_or_ge t kd.length with ht | ht
    · have := e t (by omega) (by rw [hasL_length]; exact ht)
      rw [hasL_get] at this
      simpa using this
    · rw [kat_out kd t ht]; rfl
  · rw [h] at e; omega

set_option maxHeartbeats 2000000 in
theorem room_full (sb c : Nat) (L : Lay) (F : List Nat) (ws : List Int) (ts : List Bool) (kd : List PK) (w : World) (h : SpAt w sb L F ws ts kd) (hw : WF kd) (hc : c < 5) (hpn : ∀ t, (kat kd t).has c = false) (hr : runR ts 0 1 = -1) :
    Calls Try.prog 68 #[.pointer (some ⟨sb, 0, none⟩), .int .i64 c] w fun e w' => e = .returned (.tuple #[.int .i64 0, .int .i64 3]) ∧ Keep [] w w' := by
  have HR := (show Hid (runR ts 0 1 = -1) from hr)
  clear hr
  obtain ⟨s, hs⟩ : ∃ s, sz c = s := ⟨_, rfl⟩
  have HSZ := (show Hid (sz c = s) from hs)
  have HSL := (show Hid (sizesL[c]?.getD 0 = (s : Nat)) from by show _ = _; rw [sizes_at c hc, hs])
  have hs2 : 2 ≤ s := by rw [← hs]; exact (sz_facts c hc).2.2.1
  obtain ⟨n, hn⟩ : ∃ n, kd.length = n := ⟨_, rfl⟩
  have HN := (show Hid (kd.length = n) from hn)
  have hn2 : n ≤ 256 := by rw [← hn]; exact hw.len2
  have HW := (show Hid (WF kd) from hw)
  have HS := (show Hid (SpAt w sb L F ws ts kd) from h)
  have HPN := (show Hid (∀ t, (kat kd t).has c = false) from hpn)
  clear hs hn hw h hpn
  go_enter Try.func68, Try.ntmps68
  go_wp2_with (go_at_call 60; refine (sizes_any _).mono ?_; rintro e w1 ⟨gz, rfl, hr, hK, hgz⟩; have hx := hr.cell (i := c) hc; rw [HSL.out] at hx; have hS1 := HS.out.keep0 hK; have hc2 := hS1.c2; rw [HN.out] at hc2)
  have HS1 := (show Hid (SpAt w1 sb L F ws ts kd) from hS1)
  clear hS1 hr hx HS
  go_loop [20] (fun i => ∃ j : Nat, i = .int .i64 j ∧ j ≤ n) (fun i => n - (intOf i).toNat)
  case atStart => exact ⟨0, rfl, by omega⟩
  case round =>
    obtain ⟨j, rfl, hj⟩ := hrel
    by_cases hlt : j < n
    · have HF := HPN.out j
      rcases HS1.out.look HW.out hc (j := j) (by rw [HN.out]; omega) with ⟨hcs, _⟩ | ⟨q1, b, g, s', xs, hcs, hP, hne, _⟩ | ⟨q1, b, g, xs, hcs, hP, hh⟩
      · have hd : decide ((0 : Int) = (s : Int)) = false := by rw [decide_eq_false_iff_not]; omega
        clear HF
        go_wp2_with (first | (go_at_call 66; refine (kwords_nil _).mono ?_; rintro e w' ⟨rfl, rfl⟩))
        go_round
        case rel => exact ⟨j + 1, by go_num, by omega⟩
        case measure => simp [intOf]; omega
      · rw [HSZ.out] at hne
        have hd : decide ((s' : Int) = (s : Int)) = false := by rw [decide_eq_false_iff_not]; omega
        clear HF
        go_wp2_with (first | (go_at_call 66; refine (kwords_any q1 b g _ _ _ hP).mono ?_; rintro e w' ⟨rfl, rfl⟩))
        go_round
        case rel => exact ⟨j + 1, by go_num, by omega⟩
        case measure => simp [intOf]; omega
      · rw [HSZ.out] at hP
        have HA := (show Hid (allB xs = true) from bool_no HF hh)
        clear HF hh
        go_wp2_with (first | (go_at_call 66; refine (kwords_any q1 b g _ _ _ hP).mono ?_; rintro e w' ⟨rfl, rfl⟩) | (go_at_call 72; refine (kfull_any q1 b g _ _ _ hP).mono ?_; rw [HA.out]; rintro e w' ⟨rfl, rfl⟩))
        go_round
        case rel => exact ⟨j + 1, by go_num, by omega⟩
        case measure => simp [intOf]; omega
    · obtain rfl : j = n := by omega
      have hc1 := HS1.out.c1
      have hP := HS1.out.pages
      go_wp2_with (first | (go_at_call 70; refine (ptake_no L.pb L.b L.g 1 ts _ hP (by omega) (by omega) HR.out).mono ?_; rintro e w' ⟨rfl, rfl⟩))
      go_ret2
      exact ⟨rfl, hK⟩

set_option maxHeartbeats 4000000 in
theorem room_new (sb c p : Nat) (L : Lay) (F : List Nat) (ws : List Int) (kd : List PK) (w : World) (h : SpAt w sb L F ws (takenL kd) kd) (hw : WF kd) (hc : c < 5) (hpn : ∀ t, (kat kd t).has c = false) (hr : runR (takenL kd) 0 1 = p) (hcl : Clear (takenL kd) p 1) :
    Calls Try.prog 68 #[.pointer (some ⟨sb, 0, none⟩), .int .i64 c] w fun e w' => ∃ L' F', e = .returned (.tuple #[.int .i64 p, .int .i64 0]) ∧ SpAt w' sb L' F' ws (takenL (kd.set p (.small c (offs (roomOf c))))) (kd.set p (.small c (offs (roomOf c)))) ∧ Keep F w w' ∧ Grows w F F' := by
  have hpl : p < kd.length := by have := hcl.1; rw [takenL_length] at this; omega
  have HKF := (show Hid (kat kd p = .free) from (clear_free hcl).2 p (by omega) (by omega))
  have HPT := (show Hid (putR (takenL kd) p 1 true = takenL (kd.set p (.small c (offs (roomOf c))))) from by
    show _ = _
    rw [putR_one, taken_set]; rfl)
  have HR := (show Hid (runR (takenL kd) 0 1 = p) from hr)
  have HCL := (show Hid (Clear (takenL kd) p 1) from hcl)
  have HPL := (show Hid (p < kd.length) from hpl)
  clear hr hcl
  obtain ⟨s, hs⟩ : ∃ s, sz c = s := ⟨_, rfl⟩
  have HSZ := (show Hid (sz c = s) from hs)
  have HSL := (show Hid (sizesL[c]?.getD 0 = (s : Nat)) from by show _ = _; rw [sizes_at c hc, hs])
  have hs2 : 2 ≤ s := by rw [← hs]; exact (sz_facts c hc).2.2.1
  obtain ⟨n, hn⟩ : ∃ n, kd.length = n := ⟨_, rfl⟩
  have HN := (show Hid (kd.length = n) from hn)
  have hn2 : n ≤ 256 := by rw [← hn]; exact hw.len2
  have HW := (show Hid (WF kd) from hw)
  have HS := (show Hid (SpAt w sb L F ws (takenL kd) kd) from h)
  have HPN := (show Hid (∀ t, (kat kd t).has c = false) from hpn)
  rw [hn] at hpl
  clear hs hn hw h hpn
  go_enter Try.func68, Try.ntmps68
  go_wp2_with (go_at_call 60; refine (sizes_any _).mono ?_; rintro e w1 ⟨gz, rfl, hr, hK, hgz⟩; have hx := hr.cell (i := c) hc; rw [HSL.out] at hx; have hS1 := HS.out.keep0 hK; have hc2 := hS1.c2; rw [HN.out] at hc2)
  have HS1 := (show Hid (SpAt w1 sb L F ws (takenL kd) kd) from hS1)
  clear hS1 hr hx HS
  go_loop [20] (fun i => ∃ j : Nat, i = .int .i64 j ∧ j ≤ n) (fun i => n - (intOf i).toNat)
  case atStart => exact ⟨0, rfl, by omega⟩
  case round =>
    obtain ⟨j, rfl, hj⟩ := hrel
    by_cases hlt : j < n
    · have HF := HPN.out j
      rcases HS1.out.look HW.out hc (j := j) (by rw [HN.out]; omega) with ⟨hcs, _⟩ | ⟨q1, b, g, s', xs, hcs, hP, hne, _⟩ | ⟨q1, b, g, xs, hcs, hP, hh⟩
      · have hd : decide ((0 : Int) = (s : Int)) = false := by rw [decide_eq_false_iff_not]; omega
        clear HF
        go_wp2_with (first | (go_at_call 66; refine (kwords_nil _).mono ?_; rintro e w' ⟨rfl, rfl⟩))
        go_round
        case rel => exact ⟨j + 1, by go_num, by omega⟩
        case measure => simp [intOf]; omega
      · rw [HSZ.out] at hne
        have hd : decide ((s' : Int) = (s : Int)) = false := by rw [decide_eq_false_iff_not]; omega
        clear HF
        go_wp2_with (first | (go_at_call 66; refine (kwords_any q1 b g _ _ _ hP).mono ?_; rintro e w' ⟨rfl, rfl⟩))
        go_round
        case rel => exact ⟨j + 1, by go_num, by omega⟩
        case measure => simp [intOf]; omega
      · rw [HSZ.out] at hP
        have HA := (show Hid (allB xs = true) from bool_no HF hh)
        clear HF hh
        go_wp2_with (first | (go_at_call 66; refine (kwords_any q1 b g _ _ _ hP).mono ?_; rintro e w' ⟨rfl, rfl⟩) | (go_at_call 72; refine (kfull_any q1 b g _ _ _ hP).mono ?_; rw [HA.out]; rintro e w' ⟨rfl, rfl⟩))
        go_round
        case rel => exact ⟨j + 1, by go_num, by omega⟩
        case measure => simp [intOf]; omega
    · obtain rfl : j = n := by omega
      have hc1 := HS1.out.c1
      have hP := HS1.out.pages
      have hp0 : decide ((p : Int) < 0) = false := by rw [decide_eq_false_iff_not]; omega
      go_wp2_with (first | (go_at_call 70; refine (ptake_yes L.pb L.b L.g 1 p _ _ hP (by omega) HR.out HCL.out.1).mono ?_; rintro e w3 ⟨rfl, hP3, hK3⟩))
      have hS3 := (HS1.out.turn hK3 hP3).keep0 (Keep.drew [] w3)
      rw [HPT.out] at hS3
      have hc3 := hS3.c2
      rw [HN.out] at hc3
      have hK4 := (hK3.trans (Keep.drew [L.g] w3))
      have hne : sb ≠ L.gs := ne_of_role hS3.r0 hS3.r6 (by omega)
      have hne2 : L.gs ≠ sb := fun e => hne e.symm
      clear hc1 hP hP3 hK3 hc2
      go_region_held3 (fun wz => wz.cell? ⟨sb, 2, none⟩ = some (.slice (some ⟨L.gs, 0, none⟩) j j)) (go_keep) (first | (go_at_call 73; refine (knew_ok c _ hc).mono ?_; rintro e w5 ⟨q1, q2, q3, rfl, hP5, hK5, hq1, hq2, hq3⟩; have hS5 := hS3.keep0 hK5; have hc5 := hS5.c2; rw [HN.out] at hc5; have hcs5 := hS5.cs HPL.out; rw [HKF.out] at hcs5; have hfs5 := hS5.fs p))
      have hlt5 := hP5.lt
      have hF := HS1.out.lt
      have hsz3 := hK4.size
      have hsz1 := hK.size
      have HG := (show Hid (SpAt (w5.setCell ⟨L.gs, p, none⟩ (.pointer (some ⟨q1, 0, none⟩))) sb (L.more p q1 q2 q3) (q1 :: q2 :: q3 :: F) ws (takenL (kd.set p (.small c (offs (roomOf c))))) (kd.set p (.small c (offs (roomOf c))))) from
        hS5.gain HPL.out HKF.out hP5 ⟨fun e => by have := hF _ e; omega, fun e => by have := hF _ e; omega, fun e => by have := hF _ e; omega⟩)
      have f := HS1.out.f
      have HK6 := (show Hid (Keep F w (w5.setCell ⟨L.gs, p, none⟩ (.pointer (some ⟨q1, 0, none⟩)))) from
        (((hK.mono (T := F) (by simp)).trans (hK4.mono (fun k e => by simp at e; subst e; exact f.2.2.2.2.2.1))).trans (hK5.mono (by simp))).trans (Keep.setCell _ _ f.2.2.2.2.2.2.1))
      have HGR := (show Hid (Grows w F (q1 :: q2 :: q3 :: F)) from fun k e => by
        simp only [List.mem_cons] at e
        rcases e with e | e | e | e
        · right; omega
        · right; omega
        · right; omega
        · exact .inl e)
      clear hS5 hP5 hK5 hS3 hK4 f hF
      go_wp2_with fail
      go_ret2
      exact ⟨_, _, rfl, HG.out, HK6.out, HGR.out⟩

end Go.Proofs.Ytjlbfojbgnhhbaa

/-
  Alloc of package space, whatever it is given.
-/
namespace Go.Proofs.Ytjlbfojbgnhhbaa
open Go.RowKit

set_option maxHeartbeats 2000000 in
/-- A page of the class has room, told by what looking for it answers. -/
theorem tks_yes (sb c p i : Nat) (xs : List Bool) (F : List Nat) (ws : List Int) (ts : List Bool) (kd : List PK) (w : World) (hc : c < 5)
    (hroom : Calls Try.prog 68 #[.pointer (some ⟨sb, 0, none⟩), .int .i64 c] w fun e w' => ∃ L F1, e = .returned (.tuple #[.int .i64 p, .int .i64 0]) ∧ SpAt w' sb L F1 ws ts kd ∧ Keep F w w' ∧ Grows w F F1)
    (hk : kat kd p = .small c xs) (hx : xs.length = roomOf c) (hi : nextR xs 0 false = i) (hil : i < xs.length) (hp2 : p ≤ 256) :
    Calls Try.prog 62 #[.pointer (some ⟨sb, 0, none⟩), .int .i64 c] w fun e w' => ∃ L F1, e = .returned (.tuple #[.int .i64 ((64 * p + i * sz c : Nat) : Int), .int .i64 0]) ∧ SpAt w' sb L F1 ws ts (kd.set p (.small c (xs.set i true))) ∧ Keep F w w' ∧ Grows w F F1 := by
  obtain ⟨z1, z2, z3, z4, z5, z6, z7⟩ := sz_facts c hc
  have HR := (show Hid (Calls Try.prog 68 #[.pointer (some ⟨sb, 0, none⟩), .int .i64 c] w fun e w' => ∃ L F1, e = .returned (.tuple #[.int .i64 p, .int .i64 0]) ∧ SpAt w' sb L F1 ws ts kd ∧ Keep F w w' ∧ Grows w F F1) from hroom)
  have HK := (show Hid (kat kd p = .small c xs) from hk)
  have HPL := (show Hid (p < kd.length) from kat_lt kd p (by rw [hk]; simp))
  have HI := (show Hid (nextR xs 0 false = i) from hi)
  have HIL := (show Hid (i < xs.length) from hil)
  have HZ := (show Hid (wordsOf c = sz c) from z1)
  obtain ⟨n, hn⟩ : ∃ n, kd.length = n := ⟨_, rfl⟩
  have HN := (show Hid (kd.length = n) from hn)
  have hpn : p < n := by rw [← hn]; exact HPL.out
  obtain ⟨s, hs⟩ : ∃ s, sz c = s := ⟨_, rfl⟩
  have HSZ := (show Hid (sz c = s) from hs)
  rw [hs] at z2 z4 z3 ⊢
  have hi32 : i ≤ 32 := by omega
  obtain ⟨y, hy⟩ : ∃ y : Nat, i * s = y := ⟨_, rfl⟩
  have hyb : y ≤ 32 * 32 := by rw [← hy]; exact Nat.mul_le_mul hi32 z4
  have hyi : (i : Int) * (s : Int) = y := by rw [← hy]; exact (Int.natCast_mul i s).symm
  rw [hy]
  have hyw : IntKind.i64.wrap ((i : Int) * s) = y := by rw [hyi]; exact IntWalk.i64_in _ (by omega)
  have HA := (show Hid ((p : Int) * 64 + y = ((64 * p + y : Nat) : Int)) from by show _ = _; omega)
  clear hroom hk hi hil hn hs hx z1 z2 z3 z5 z6 z7 hy
  go_enter Try.func62, Try.ntmps62
  go_wp2_with fail
  refine HR.out.mono ?_
  rintro e w1 ⟨L, F1, rfl, hS1, hK1, hG1⟩
  have hc2 := hS1.c2
  have hcs := hS1.cs HPL.out
  have hP := hS1.page p c xs HK.out
  rw [HK.out] at hcs
  rw [HN.out] at hc2
  rw [HZ.out, HSZ.out] at hP
  have hcs' : w1.cell? ⟨L.gs, p, none⟩ = some (.pointer (some ⟨(L.P p).1, 0, none⟩)) := hcs
  have HS1 := (show Hid (SpAt w1 sb L F1 ws ts kd) from hS1)
  have HG1 := (show Hid (Grows w F F1) from hG1)
  have hsz := hK1.size
  obtain ⟨q1, hq1⟩ : ∃ q1, (L.P p).1 = q1 := ⟨_, rfl⟩
  obtain ⟨q2, hq2⟩ : ∃ q2, (L.P p).2.1 = q2 := ⟨_, rfl⟩
  obtain ⟨q3, hq3⟩ : ∃ q3, (L.P p).2.2 = q3 := ⟨_, rfl⟩
  have HQ := (show Hid ((L.P p).1 = q1 ∧ (L.P p).2.1 = q2 ∧ (L.P p).2.2 = q3) from ⟨hq1, hq2, hq3⟩)
  rw [hq1] at hcs'
  rw [hq1, hq2, hq3] at hP
  clear hS1 hcs hG1 hq1 hq2 hq3
  go_wp2_with (first | (go_at_call 69; refine (ktake_yes q1 q2 q3 i _ _ _ hP HI.out HIL.out).mono ?_; rintro e w3 ⟨rfl, hP3, hK3⟩; have hq3 := HQ.out; have hS3 := HS1.out.inner HK.out (by rw [hq3.2.2]; exact hK3) (by rw [hq3.1, hq3.2.1, hq3.2.2, HZ.out, HSZ.out]; exact hP3); have hc23 := hS3.c2; rw [List.length_set, HN.out] at hc23; have hcs3 := hS3.cs (p := p) (by rw [List.length_set]; exact HPL.out); rw [kat_set_same _ _ _ HPL.out] at hcs3; have hcs4 : w3.cell? ⟨L.gs, p, none⟩ = some (.pointer (some ⟨(L.P p).1, 0, none⟩)) := hcs3; rw [hq3.1] at hcs4; clear hcs3) | (go_at_call 66; refine (kwords_any q1 q2 q3 _ _ _ hP3).mono ?_; rintro e w' ⟨rfl, rfl⟩))
  have hq3F : q3 ∈ F1 := by have := (HS1.out.fp p c xs HK.out).2.2; rw [hq3.2.2] at this; exact this
  have HK4 := (show Hid (Keep F w w3) from ((hK1.mono (T := q3 :: F) (fun k e => List.mem_cons_of_mem _ e)).trans (hK3.mono (by simp))).drop (fun k e hlt => by
    rcases List.mem_cons.1 e with rfl | e
    · rcases HG1.out _ hq3F with h | h
      · exact h
      · omega
    · exact e))
  have HS3 := (show Hid (SpAt w3 sb L F1 ws ts (kd.set p (.small c (xs.set i true)))) from hS3)
  clear hS3 hK3 hK1 hP3
  all_goals
    go_ret2
    exact ⟨L, F1, by rw [← HA.out]; rfl, HS3.out, HK4.out, HG1.out⟩
set_option maxHeartbeats 1000000 in
theorem tks_no (sb c : Nat) (w : World)
    (hroom : Calls Try.prog 68 #[.pointer (some ⟨sb, 0, none⟩), .int .i64 c] w fun e w' => e = .returned (.tuple #[.int .i64 0, .int .i64 3]) ∧ Keep [] w w') :
    Calls Try.prog 62 #[.pointer (some ⟨sb, 0, none⟩), .int .i64 c] w fun e w' => e = .returned (.tuple #[.int .i64 0, .int .i64 3]) ∧ Keep [] w w' := by
  have HR := (show Hid (Calls Try.prog 68 #[.pointer (some ⟨sb, 0, none⟩), .int .i64 c] w fun e w' => e = .returned (.tuple #[.int .i64 0, .int .i64 3]) ∧ Keep [] w w') from hroom)
  clear hroom
  go_enter Try.func62, Try.ntmps62
  go_wp2_with (go_at_call 68; refine HR.out.mono ?_; rintro e w1 ⟨rfl, hK1⟩)
  go_ret2
  exact ⟨rfl, hK1⟩

set_option maxHeartbeats 1000000 in
theorem tkl_no (sb k : Nat) (L : Lay) (F : List Nat) (ws : List Int) (ts : List Bool) (kd : List PK) (w : World) (h : SpAt w sb L F ws ts kd) (hk : 1 ≤ k) (hk2 : k ≤ 16) (hr : runR ts 0 k = -1) :
    Calls Try.prog 63 #[.pointer (some ⟨sb, 0, none⟩), .int .i64 k] w fun e w' => e = .returned (.tuple #[.int .i64 0, .int .i64 3]) ∧ Keep [] w w' := by
  have hc1 := h.c1
  have hP := h.pages
  have HR := (show Hid (runR ts 0 k = -1) from hr)
  clear h hr
  go_enter Try.func63, Try.ntmps63
  go_wp2_with (go_at_call 70; refine (ptake_no L.pb L.b L.g k ts _ hP hk (by omega) HR.out).mono ?_; rintro e w' ⟨rfl, rfl⟩)
  go_ret2
  exact ⟨rfl, Keep.refl _ _⟩
set_option maxHeartbeats 2000000 in
theorem tkl_yes (sb k p : Nat) (L : Lay) (F : List Nat) (ws : List Int) (kd : List PK) (w : World) (h : SpAt w sb L F ws (takenL kd) kd) (hk : 1 ≤ k) (hk2 : k ≤ 16) (hr : runR (takenL kd) 0 k = p) (hcl : Clear (takenL kd) p k) (hn2 : kd.length ≤ 256) :
    Calls Try.prog 63 #[.pointer (some ⟨sb, 0, none⟩), .int .i64 k] w fun e w' => ∃ L F1, e = .returned (.tuple #[.int .i64 ((64 * p : Nat) : Int), .int .i64 0]) ∧ SpAt w' sb L F1 ws (takenL (putParts kd p k)) (putParts kd p k) ∧ Keep F w w' ∧ Grows w F F1 := by
  obtain ⟨hpl, hfree⟩ := clear_free hcl
  have HT := (show Hid (putR (takenL kd) p k true = takenL (putParts kd p k)) from (taken_put kd p k hpl).symm)
  have HB := (show Hid (bigL (putParts kd p k) = (bigL kd).set p k) from big_put kd p k hk hcl)
  have HS := (show Hid (∀ q, kat (putParts kd p k) q = kat kd q ∨ (∀ c xs, kat (putParts kd p k) q ≠ .small c xs) ∧ (∀ c xs, kat kd q ≠ .small c xs)) from fun q => by
    rw [putParts_at kd p k q hpl]
    by_cases e : p ≤ q ∧ q < p + k
    · right; rw [if_pos e, hfree q e.1 e.2]; simp
    · left; rw [if_neg e])
  have HL := (show Hid (p < kd.length) from by show _ < _; omega)
  have hc1 := h.c1
  have hP := h.pages
  have HR := (show Hid (runR (takenL kd) 0 k = p) from hr)
  have HC := (show Hid (Clear (takenL kd) p k) from hcl)
  obtain ⟨n, hn⟩ : ∃ n, kd.length = n := ⟨_, rfl⟩
  have HN := (show Hid (kd.length = n) from hn)
  have hpn : p < n := by omega
  rw [hn] at hn2
  have H := (show Hid (SpAt w sb L F ws (takenL kd) kd) from h)
  have HA := (show Hid ((p : Int) * 64 = ((64 * p : Nat) : Int)) from by show _ = _; omega)
  clear hpl hfree hr hcl h hn
  go_enter Try.func63, Try.ntmps63
  go_wp2_with (first | (go_at_call 70; refine (ptake_yes L.pb L.b L.g k p _ _ hP hk HR.out HC.out.1).mono ?_; rintro e w1 ⟨rfl, hP1, hK1⟩; have hS1 := H.out.turn hK1 hP1; rw [HT.out] at hS1; have hc3 := hS1.c3; rw [HN.out] at hc3; have hcl := hS1.cl HL.out; have hfl := hS1.fl p; have HS2 := (show Hid (SpAt (w1.setCell ⟨L.gl, p, none⟩ (.int .i64 (k : Int))) sb L F ws (takenL (putParts kd p k)) (putParts kd p k)) from hS1.larger (putParts_length kd p k) HB.out HS.out); have f := hS1.f; have HK2 := (show Hid (Keep F w (w1.setCell ⟨L.gl, p, none⟩ (.int .i64 (k : Int)))) from (hK1.mono (fun x e => by simp at e; subst e; exact f.2.2.2.2.2.1)).trans (Keep.setCell _ _ f.2.2.2.2.2.2.2)); clear hS1 hP1 hK1 f))
  go_ret2
  exact ⟨L, F, by rw [← HA.out]; rfl, HS2.out, HK2.out, Grows.refl _ _⟩

set_option maxHeartbeats 1000000 in
theorem take_small (sb c : Nat) (n : Int) (w : World) (v1 v2 : Int) (Q : World → Prop) (hc : classI n = c) (hc5 : c < 5)
    (ht : ∀ w', Keep [] w w' → Calls Try.prog 62 #[.pointer (some ⟨sb, 0, none⟩), .int .i64 c] w' fun e w'' => e = .returned (.tuple #[.int .i64 v1, .int .i64 v2]) ∧ Q w'') :
    Calls Try.prog 49 #[.pointer (some ⟨sb, 0, none⟩), .int .i64 n] w fun e w' => e = .returned (.tuple #[.int .i64 v1, .int .i64 v2]) ∧ Q w' := by
  have HC := (show Hid (classI n = c) from hc)
  have HT := (show Hid (∀ w', Keep [] w w' → Calls Try.prog 62 #[.pointer (some ⟨sb, 0, none⟩), .int .i64 c] w' fun e w'' => e = .returned (.tuple #[.int .i64 v1, .int .i64 v2]) ∧ Q w'') from ht)
  have hd : decide ((0 : Int) ≤ (c : Int)) = true := by rw [decide_eq_true_iff]; omega
  clear hc ht
  go_enter Try.func49, Try.ntmps49
  go_wp2_with (first | (go_at_call 59; refine (class_any _ _).mono ?_; rw [HC.out]; rintro e w1 ⟨rfl, hK1⟩) | (go_at_call 62; refine (HT.out _ hK1).mono ?_; rintro e w3 ⟨rfl, hQ⟩))
  go_ret2
  exact ⟨rfl, hQ⟩
set_option maxHeartbeats 1000000 in
theorem take_large (sb k : Nat) (n : Int) (w : World) (v1 v2 : Int) (Q : World → Prop) (hc : classI n = -1) (hk : pagesI n = k)
    (ht : ∀ w', Keep [] w w' → Calls Try.prog 63 #[.pointer (some ⟨sb, 0, none⟩), .int .i64 k] w' fun e w'' => e = .returned (.tuple #[.int .i64 v1, .int .i64 v2]) ∧ Q w'') :
    Calls Try.prog 49 #[.pointer (some ⟨sb, 0, none⟩), .int .i64 n] w fun e w' => e = .returned (.tuple #[.int .i64 v1, .int .i64 v2]) ∧ Q w' := by
  have HC := (show Hid (classI n = -1) from hc)
  have HP := (show Hid (pagesI n = k) from hk)
  have HT := (show Hid (∀ w', Keep [] w w' → Calls Try.prog 63 #[.pointer (some ⟨sb, 0, none⟩), .int .i64 k] w' fun e w'' => e = .returned (.tuple #[.int .i64 v1, .int .i64 v2]) ∧ Q w'') from ht)
  clear hc hk ht
  go_enter Try.func49, Try.ntmps49
  go_wp2_with (first | (go_at_call 59; refine (class_any _ _).mono ?_; rw [HC.out]; rintro e w1 ⟨rfl, hK1⟩) | (go_at_call 61; refine (pages_any _ _).mono ?_; rw [HP.out]; rintro e w2 ⟨rfl, hK2⟩) | (go_at_call 63; refine (HT.out _ (hK1.trans hK2)).mono ?_; rintro e w3 ⟨rfl, hQ⟩))
  go_ret2
  exact ⟨rfl, hQ⟩

end Go.Proofs.Ytjlbfojbgnhhbaa

/-
  Alloc and Free of package space, whatever they are given.
-/
namespace Go.Proofs.Ytjlbfojbgnhhbaa
open Go.RowKit

set_option maxHeartbeats 1000000 in
theorem salloc_arg (sb : Nat) (n : Int) (w : World) (h : blockI n = 0) :
    Calls Try.prog 39 #[.pointer (some ⟨sb, 0, none⟩), .int .i64 n] w fun e w' => e = .returned (.tuple #[.int .i64 0, .int .i64 1]) ∧ Keep [] w w' := by
  have HB := (show Hid (blockI n = 0) from h)
  clear h
  go_enter Try.func39, Try.ntmps39
  go_wp2_with (go_at_call 48; refine (block_any _ _).mono ?_; rw [HB.out]; rintro e w1 ⟨rfl, hK1⟩)
  go_ret2
  exact ⟨rfl, hK1⟩
set_option maxHeartbeats 1000000 in
theorem salloc_nil (n : Int) (w : World) :
    Calls Try.prog 39 #[.pointer none, .int .i64 n] w fun e w' => e = .returned (.tuple #[.int .i64 0, .int .i64 2]) ∧ w = w' := by
  go_enter Try.func39, Try.ntmps39
  go_wp2
  go_ret2
  exact ⟨rfl, rfl⟩
set_option maxHeartbeats 1000000 in
theorem alloc_no (sb : Nat) (n : Int) (w : World) (h : blockI n ≠ 0)
    (ht : ∀ w', Keep [] w w' → Calls Try.prog 49 #[.pointer (some ⟨sb, 0, none⟩), .int .i64 n] w' fun e w'' => e = .returned (.tuple #[.int .i64 0, .int .i64 3]) ∧ Keep [] w' w'') :
    Calls Try.prog 39 #[.pointer (some ⟨sb, 0, none⟩), .int .i64 n] w fun e w' => e = .returned (.tuple #[.int .i64 0, .int .i64 3]) ∧ Keep [] w w' := by
  obtain ⟨b, hb⟩ : ∃ b, blockI n = b := ⟨_, rfl⟩
  have HB := (show Hid (blockI n = b) from hb)
  have hd : decide (b = 0) = false := by rw [decide_eq_false_iff_not, ← hb]; exact h
  rw [hb] at h
  have HT := (show Hid (∀ w', Keep [] w w' → Calls Try.prog 49 #[.pointer (some ⟨sb, 0, none⟩), .int .i64 n] w' fun e w'' => e = .returned (.tuple #[.int .i64 0, .int .i64 3]) ∧ Keep [] w' w'') from ht)
  clear hb ht
  go_enter Try.func39, Try.ntmps39
  go_wp2_with (first | (go_at_call 48; refine (block_any _ _).mono ?_; rw [HB.out]; rintro e w1 ⟨rfl, hK1⟩) | (go_at_call 49; refine (HT.out _ hK1).mono ?_; rintro e w2 ⟨rfl, hK2⟩))
  go_ret2
  exact ⟨rfl, hK1.trans hK2⟩
set_option maxHeartbeats 2000000 in
theorem alloc_yes (sb a b : Nat) (n : Int) (F : List Nat) (ws : List Int) (ts : List Bool) (kd : List PK) (w : World) (hb : blockI n = b) (hb1 : 1 ≤ b) (hab : a + b ≤ ws.length)
    (ht : ∀ w', Keep [] w w' → Calls Try.prog 49 #[.pointer (some ⟨sb, 0, none⟩), .int .i64 n] w' fun e w'' => e = .returned (.tuple #[.int .i64 a, .int .i64 0]) ∧ ∃ L F1, SpAt w'' sb L F1 ws ts kd ∧ Keep F w' w'' ∧ Grows w' F F1) :
    Calls Try.prog 39 #[.pointer (some ⟨sb, 0, none⟩), .int .i64 n] w fun e w' => ∃ L F1, e = .returned (.tuple #[.int .i64 a, .int .i64 0]) ∧ SpAt w' sb L F1 (fill0 ws a b) ts kd ∧ Keep F w w' ∧ Grows w F F1 := by
  have HB := (show Hid (blockI n = b) from hb)
  have hd : decide ((b : Int) = 0) = false := by rw [decide_eq_false_iff_not]; omega
  have HT := (show Hid (∀ w', Keep [] w w' → Calls Try.prog 49 #[.pointer (some ⟨sb, 0, none⟩), .int .i64 n] w' fun e w'' => e = .returned (.tuple #[.int .i64 a, .int .i64 0]) ∧ ∃ L F1, SpAt w'' sb L F1 ws ts kd ∧ Keep F w' w'' ∧ Grows w' F F1) from ht)
  clear hb ht
  go_enter Try.func39, Try.ntmps39
  go_wp2_with (first | (go_at_call 48; refine (block_any _ _).mono ?_; rw [HB.out]; rintro e w1 ⟨rfl, hK1⟩) | (go_at_call 49; refine (HT.out _ hK1).mono ?_; rintro e w2 ⟨rfl, L, F1, hS2, hK2, hG2⟩; have hc0 := hS2.c0; have hA2 := hS2.arena) | (go_at_call 50; refine (fill_yes L.ab L.ag a b _ _ hA2 (by omega) (by omega)).mono ?_; rintro e w3 ⟨rfl, hA3, hK3⟩))
  have hS3 := hS2.words hK3 hA3 (fill0_length ws a b hab)
  have f := hS2.f
  have hsz := hK1.size
  have hsz2 := hK2.size
  have HG := (show Hid (Grows w F F1) from fun k e => by
    rcases hG2 k e with h | h
    · exact .inl h
    · right; omega)
  have HK := (show Hid (Keep F w w3) from (((hK1.mono (T := L.ag :: F) (by simp)).trans (hK2.mono (fun k e => List.mem_cons_of_mem _ e))).trans (hK3.mono (by simp))).drop (fun k e hlt => by
    rcases List.mem_cons.1 e with rfl | e
    · rcases hG2 _ f.2.2.1 with h | h
      · exact h
      · omega
    · exact e))
  have HS := (show Hid (SpAt w3 sb L F1 (fill0 ws a b) ts kd) from hS3)
  clear hS3 hS2 hA2 hA3 hK3 hK2 hG2 f
  go_ret2
  exact ⟨L, F1, rfl, HS.out, HK.out, HG.out⟩

/-- Alloc that has room. -/
theorem salloc_yes (sb a b : Nat) (n : Int) (F : List Nat) (ws : List Int) (kd kd' : List PK) (w : World) (h : IsSpace w sb F ws kd) (hw : WF kd) (hr : AllocR kd n (some (a, kd'))) (hb : blockI n = b) :
    Calls Try.prog 39 #[.pointer (some ⟨sb, 0, none⟩), .int .i64 n] w fun e w' => ∃ F', e = .returned (.tuple #[.int .i64 a, .int .i64 0]) ∧ IsSpace w' sb F' (fill0 ws a b) kd' ∧ Keep F w w' ∧ Grows w F F' := by
  obtain ⟨b', hb', hb1, hw', hl', ha1, ha2, hf1, hf2⟩ := hr.spec hw
  obtain rfl : b = b' := by rw [hb] at hb'; omega
  obtain ⟨L, h⟩ := h
  have hlen := h.len
  have hn2 := hw.len2
  have fin : ∀ ht, _ := alloc_yes sb a b n F ws (takenL kd') kd' w hb hb1 (by omega)
  refine (fin ?_).mono ?_
  · intro w1 hK1
    have h1 := h.keep0 hK1
    cases hr with
    | old c p i xs e1 e2 e3 e4 e5 =>
      obtain ⟨hc, hxl, _⟩ := hw.small p c xs e3
      have hp := kat_lt kd p (by rw [e3]; simp)
      have hts : takenL kd = takenL (kd.set p (.small c (xs.set i true))) := by
        rw [taken_set]
        have : (takenL kd)[p]?.getD false = true := by rw [takenL_get, e3]; rfl
        refine beq_of_getD (by simp) (fun t => ?_)
        by_cases e : t = p
        · subst e; rw [this, bset_same _ _ _ (by rw [takenL_length]; exact hp)]; rfl
        · rw [bset_other _ _ _ _ (fun e' => e e'.symm)]
      refine take_small sb c n w1 _ _ (fun w'' => ∃ L F1, SpAt w'' sb L F1 ws (takenL (kd.set p (.small c (xs.set i true)))) (kd.set p (.small c (xs.set i true))) ∧ Keep F w1 w'' ∧ Grows w1 F F1) e1 hc ?_
      intro w2 hK2
      have h2 := h1.keep0 hK2
      refine (tks_yes sb c p i xs F ws (takenL kd) kd w2 hc ((room_old sb c p L F ws _ kd w2 h2 hw hc e2).mono ?_) e3 hxl e4 e5 (by omega)).mono ?_
      · rintro e w3 ⟨rfl, hK3⟩
        exact ⟨L, F, rfl, h2.keep0 hK3, hK3.mono (by simp), Grows.refl _ _⟩
      · rintro e w3 ⟨L3, F3, rfl, hS3, hK3, hG3⟩
        rw [hts] at hS3
        have := hK2.size
        refine ⟨rfl, L3, F3, hS3, (hK2.mono (by simp)).trans hK3, fun k e => ?_⟩
        rcases hG3 k e with h | h
        · exact .inl h
        · right; omega
    | new c p e1 e2 e3 =>
      obtain ⟨c', hc', hc⟩ : ∃ j : Nat, classI n = j ∧ j < 5 := by
        rcases class_lt n with e | e
        · rw [e1] at e; omega
        · exact e
      obtain rfl : c = c' := by rw [e1] at hc'; omega
      have hcl := run_clear (by omega) e3
      have hp : p < kd.length := by have := (clear_free hcl).1; omega
      obtain ⟨z1, z2, z3, z4, z5, z6, z7⟩ := sz_facts c hc
      have hx0 : nextR (offs (roomOf c)) 0 false = 0 := nextR_is _ _ _ 0 (by omega) (by rw [offs_length]; omega) (offs_get _ _) (fun t a b => by omega)
      have hset : (kd.set p (.small c (offs (roomOf c)))).set p (.small c ((offs (roomOf c)).set 0 true)) = kd.set p (.small c ((offs (roomOf c)).set 0 true)) := by simp
      refine take_small sb c n w1 _ _ (fun w'' => ∃ L F1, SpAt w'' sb L F1 ws (takenL (kd.set p (.small c ((offs (roomOf c)).set 0 true)))) (kd.set p (.small c ((offs (roomOf c)).set 0 true))) ∧ Keep F w1 w'' ∧ Grows w1 F F1) e1 hc ?_
      intro w2 hK2
      have h2 := h1.keep0 hK2
      have := tks_yes sb c p 0 (offs (roomOf c)) F ws _ (kd.set p (.small c (offs (roomOf c)))) w2 hc (room_new sb c p L F ws kd w2 h2 hw hc (none_has e2) e3 hcl) (kat_set_same _ _ _ hp) (offs_length _) hx0 (by rw [offs_length]; omega) (by omega)
      rw [hset, show 64 * p + 0 * sz c = 64 * p by omega] at this
      refine this.mono ?_
      rintro e w3 ⟨L3, F3, rfl, hS3, hK3, hG3⟩
      rw [show takenL (kd.set p (.small c (offs (roomOf c)))) = takenL (kd.set p (.small c ((offs (roomOf c)).set 0 true))) by rw [taken_set, taken_set]; rfl] at hS3
      have := hK2.size
      refine ⟨rfl, L3, F3, hS3, (hK2.mono (by simp)).trans hK3, fun k e => ?_⟩
      rcases hG3 k e with h | h
      · exact .inl h
      · right; omega
    | large k p e1 e2 e3 e4 =>
      have hcl := run_clear e3 e4
      have hk16 : k ≤ 16 := by have := (pages_le n).2; omega
      refine take_large sb k n w1 _ _ (fun w'' => ∃ L F1, SpAt w'' sb L F1 ws (takenL (putParts kd p k)) (putParts kd p k) ∧ Keep F w1 w'' ∧ Grows w1 F F1) e1 e2 ?_
      intro w2 hK2
      have h2 := h1.keep0 hK2
      refine (tkl_yes sb k p L F ws kd w2 h2 e3 hk16 e4 hcl hn2).mono ?_
      rintro e w3 ⟨L3, F3, rfl, hS3, hK3, hG3⟩
      have := hK2.size
      refine ⟨rfl, L3, F3, hS3, (hK2.mono (by simp)).trans hK3, fun k e => ?_⟩
      rcases hG3 k e with h | h
      · exact .inl h
      · right; omega
  · rintro e w' ⟨L', F', rfl, hS', hK', hG'⟩
    exact ⟨F', rfl, ⟨L', hS'⟩, hK', hG'⟩
/-- Alloc that has none. -/
theorem salloc_no (sb : Nat) (n : Int) (F : List Nat) (ws : List Int) (kd : List PK) (w : World) (h : IsSpace w sb F ws kd) (hw : WF kd) (hr : AllocR kd n none) (hb : blockI n ≠ 0) :
    Calls Try.prog 39 #[.pointer (some ⟨sb, 0, none⟩), .int .i64 n] w fun e w' => e = .returned (.tuple #[.int .i64 0, .int .i64 3]) ∧ Keep [] w w' := by
  obtain ⟨L, h⟩ := h
  refine alloc_no sb n w hb ?_
  intro w1 hK1
  have h1 := h.keep0 hK1
  cases hr with
  | full c e1 e2 e3 =>
    obtain ⟨c', hc', hc⟩ : ∃ j : Nat, classI n = j ∧ j < 5 := by
      rcases class_lt n with e | e
      · rw [e1] at e; omega
      · exact e
    obtain rfl : c = c' := by rw [e1] at hc'; omega
    refine take_small sb c n w1 _ _ (fun w'' => Keep [] w1 w'') e1 hc ?_
    intro w2 hK2
    refine (tks_no sb c w2 (room_full sb c L F ws _ kd w2 (h1.keep0 hK2) hw hc (none_has e2) e3)).mono ?_
    rintro e w3 ⟨rfl, hK3⟩
    exact ⟨rfl, hK2.trans hK3⟩
  | over k e1 e2 e3 e4 =>
    refine take_large sb k n w1 _ _ (fun w'' => Keep [] w1 w'') e1 e2 ?_
    intro w2 hK2
    refine (tkl_no sb k L F ws _ kd w2 (h1.keep0 hK2) e3 (by have := (pages_le n).2; omega) e4).mono ?_
    rintro e w3 ⟨rfl, hK3⟩
    exact ⟨rfl, hK2.trans hK3⟩

end Go.Proofs.Ytjlbfojbgnhhbaa

/-
  Free of package space.
-/
namespace Go.Proofs.Ytjlbfojbgnhhbaa
open Go.RowKit

end Go.Proofs.Ytjlbfojbgnhhbaa

/-
  A space that a statement has made: what each call answers and leaves, with nothing older turned.
-/
namespace Go.Proofs.Ytjlbfojbgnhhbaa
open Go.RowKit

/-- A space all of whose memory is younger than w0, in a world that leaves all that is older as it was. -/
def Held (w0 w : World) (sb : Nat) (ws : List Int) (kd : List PK) : Prop := ∃ F, IsSpace w sb F ws kd ∧ WF kd ∧ Keep [] w0 w ∧ ∀ k, k ∈ F → w0.heap.size ≤ k
theorem Held.keep0 {w0 w w' : World} {sb : Nat} {ws : List Int} {kd : List PK} (h : Held w0 w sb ws kd) (K : Keep [] w w') : Held w0 w' sb ws kd := by
  obtain ⟨F, h1, h2, h3, h4⟩ := h
  exact ⟨F, h1.keep0 K, h2, h3.trans K, h4⟩
theorem Held.K {w0 w : World} {sb : Nat} {ws : List Int} {kd : List PK} (h : Held w0 w sb ws kd) : Keep [] w0 w := by
  obtain ⟨F, h1, h2, h3, h4⟩ := h; exact h3
theorem Held.wf {w0 w : World} {sb : Nat} {ws : List Int} {kd : List PK} (h : Held w0 w sb ws kd) : WF kd := by
  obtain ⟨F, h1, h2, h3, h4⟩ := h; exact h2
theorem Held.len {w0 w : World} {sb : Nat} {ws : List Int} {kd : List PK} (h : Held w0 w sb ws kd) : ws.length = 64 * kd.length := by
  obtain ⟨F, h1, h2, h3, h4⟩ := h; exact h1.len
theorem Held.c0 {w0 w : World} {sb : Nat} {ws : List Int} {kd : List PK} (h : Held w0 w sb ws kd) : ∃ ab, w.cell? ⟨sb, 0, none⟩ = some (.pointer (some ⟨ab, 0, none⟩)) := by
  obtain ⟨F, ⟨L, h⟩, _⟩ := h; exact ⟨_, h.c0⟩
theorem Held.c1 {w0 w : World} {sb : Nat} {ws : List Int} {kd : List PK} (h : Held w0 w sb ws kd) : ∃ pb, w.cell? ⟨sb, 1, none⟩ = some (.pointer (some ⟨pb, 0, none⟩)) := by
  obtain ⟨F, ⟨L, h⟩, _⟩ := h; exact ⟨_, h.c1⟩
theorem Held.step {w0 w w' : World} {sb : Nat} {F F' : List Nat} {ws : List Int} {kd : List PK} (h1 : IsSpace w' sb F' ws kd) (h2 : WF kd) (hK0 : Keep [] w0 w) (hF : ∀ k, k ∈ F → w0.heap.size ≤ k) (hK : Keep F w w') (hG : Grows w F F') : Held w0 w' sb ws kd := by
  have := hK0.size
  refine ⟨F', h1, h2, (hK0.mono (by simp)).trans hK |>.drop (fun k e hlt => by have := hF k e; omega), fun k e => ?_⟩
  rcases hG k e with e | e
  · exact hF k e
  · omega

theorem hnew (n : Nat) (w0 w : World) (hK : Keep [] w0 w) (h1 : 1 ≤ n) (h2 : n ≤ 256) :
    Calls Try.prog 35 #[.int .i64 n] w fun e w' => ∃ sb, e = .returned (.tuple #[.pointer (some ⟨sb, 0, none⟩), .int .i64 0]) ∧ Held w0 w' sb (zeros (64 * n)) (freshK n) := by
  refine (snew_ok n w h1 h2).mono ?_
  rintro e w' ⟨sb, F, rfl, hS, hK1, _, hF⟩
  have := hK.size
  exact ⟨sb, rfl, F, hS, freshK_wf n h1 h2, hK.trans hK1, fun k e => by have := hF k e; omega⟩
theorem halloc_yes {w0 : World} (sb a b : Nat) (n : Int) (ws : List Int) (kd kd' : List PK) (w : World) (h : Held w0 w sb ws kd) (hr : AllocR kd n (some (a, kd'))) (hb : blockI n = b) :
    Calls Try.prog 39 #[.pointer (some ⟨sb, 0, none⟩), .int .i64 n] w fun e w' => e = .returned (.tuple #[.int .i64 a, .int .i64 0]) ∧ Held w0 w' sb (fill0 ws a b) kd' := by
  obtain ⟨F, h1, h2, h3, h4⟩ := h
  refine (salloc_yes sb a b n F ws kd kd' w h1 h2 hr hb).mono ?_
  rintro e w' ⟨F', rfl, hS, hK, hG⟩
  obtain ⟨_, _, _, hw', _⟩ := hr.spec h2
  exact ⟨rfl, Held.step hS hw' h3 h4 hK hG⟩
theorem halloc_no {w0 : World} (sb : Nat) (n : Int) (ws : List Int) (kd : List PK) (w : World) (h : Held w0 w sb ws kd) (hr : AllocR kd n none) (hb : blockI n ≠ 0) :
    Calls Try.prog 39 #[.pointer (some ⟨sb, 0, none⟩), .int .i64 n] w fun e w' => e = .returned (.tuple #[.int .i64 0, .int .i64 3]) ∧ Held w0 w' sb ws kd := by
  obtain ⟨F, h1, h2, h3, h4⟩ := h
  refine (salloc_no sb n F ws kd w h1 h2 hr hb).mono ?_
  rintro e w' ⟨rfl, hK⟩
  exact ⟨rfl, F, h1.keep0 hK, h2, h3.trans hK, h4⟩
theorem halloc_arg {w0 : World} (sb : Nat) (n : Int) (ws : List Int) (kd : List PK) (w : World) (h : Held w0 w sb ws kd) (hb : blockI n = 0) :
    Calls Try.prog 39 #[.pointer (some ⟨sb, 0, none⟩), .int .i64 n] w fun e w' => e = .returned (.tuple #[.int .i64 0, .int .i64 1]) ∧ Held w0 w' sb ws kd := by
  refine (salloc_arg sb n w hb).mono ?_
  rintro e w' ⟨rfl, hK⟩
  exact ⟨rfl, h.keep0 hK⟩
theorem hfind {w0 : World} (sb : Nat) (a : Int) (ws : List Int) (kd : List PK) (w : World) (h : Held w0 w sb ws kd) :
    Calls Try.prog 43 #[.pointer (some ⟨sb, 0, none⟩), .int .i64 a] w fun e w' => e = .returned (foundV (findI kd a)) ∧ Held w0 w' sb ws kd := by
  obtain ⟨F, h1, h2, h3, h4⟩ := h
  refine (sfind_any sb F a ws kd w h1 h2).mono ?_
  rintro e w' ⟨rfl, hK⟩
  exact ⟨rfl, F, h1.keep0 hK, h2, h3.trans hK, h4⟩
/-- The arena's own calls, through the space. -/
theorem hload {w0 : World} (sb ab a : Nat) (ws : List Int) (kd : List PK) (w : World) (h : Held w0 w sb ws kd) (hc : w.cell? ⟨sb, 0, none⟩ = some (.pointer (some ⟨ab, 0, none⟩))) (ha : a < ws.length) :
    Calls Try.prog 33 #[.pointer (some ⟨ab, 0, none⟩), .int .i64 a] w fun e w' => e = .returned (.tuple #[.int .i64 (ws[a]?.getD 0), .int .i64 0]) ∧ w = w' := by
  obtain ⟨F, ⟨L, h1⟩, h2, h3, h4⟩ := h
  have e := h1.c0
  rw [hc] at e
  have e2 : ab = L.ab := by injection e with e; injection e with e; injection e with e; injection e
  subst e2
  exact load_yes L.ab L.ag a ws w h1.arena ha
theorem hstore {w0 : World} (sb ab a : Nat) (x : Int) (ws : List Int) (kd : List PK) (w : World) (h : Held w0 w sb ws kd) (hc : w.cell? ⟨sb, 0, none⟩ = some (.pointer (some ⟨ab, 0, none⟩))) (ha : a < ws.length) :
    Calls Try.prog 31 #[.pointer (some ⟨ab, 0, none⟩), .int .i64 a, .int .i64 x] w fun e w' => e = .returned (.int .i64 0) ∧ Held w0 w' sb (ws.set a x) kd := by
  obtain ⟨F, ⟨L, h1⟩, h2, h3, h4⟩ := h
  have e := h1.c0
  rw [hc] at e
  have e2 : ab = L.ab := by injection e with e; injection e with e; injection e with e; injection e
  subst e2
  refine (store_yes L.ab L.ag a x ws w h1.arena ha).mono ?_
  rintro e w' ⟨rfl, hA, hK⟩
  have f := h1.f.2.2.1
  exact ⟨rfl, Held.step (F := F) (F' := F) ⟨L, h1.words hK hA (by simp)⟩ h2 h3 h4 (hK.mono (fun k e => by simp at e; subst e; exact f)) (Grows.refl _ _)⟩
/-- The first block of a new space. -/
theorem fresh_small (N c : Nat) (n : Int) (hN : 2 ≤ N) (hc : classI n = c) : AllocR (freshK N) n (some (64, (freshK N).set 1 (.small c ((offs (roomOf c)).set 0 true)))) := by
  have := AllocR.new (kd := freshK N) (n := n) c 1 hc (nextR_none _ _ _ (fun t _ _ => by rw [hasL_get, freshK_has N c t (by omega)]; simp)) (by rw [freshK_taken N (by omega)]; exact fresh_run N 1 (by omega) (by omega))
  exact this
theorem fresh_large (N k : Nat) (n : Int) (hk : 1 ≤ k) (hN : k < N) (hc : classI n = -1) (hp : pagesI n = k) : AllocR (freshK N) n (some (64, putParts (freshK N) 1 k)) := by
  have := AllocR.large (kd := freshK N) (n := n) k 1 hc hp hk (by rw [freshK_taken N (by omega)]; exact fresh_run N k hk hN)
  exact this
/-- Whatever is asked of a new space. -/
theorem fresh_alloc (N b : Nat) (n : Int) (hb : blockI n = b) (hb1 : 1 ≤ b) (hN : b ≤ 64 * (N - 1)) (hN2 : 2 ≤ N) : ∃ kd', AllocR (freshK N) n (some (64, kd')) := by
  rcases class_lt n with hc | ⟨c, hc, _⟩
  · obtain ⟨k, hk⟩ := Int.eq_ofNat_of_zero_le (pages_le n).1
    have e := block_none n hc
    rw [hk] at e
    exact ⟨_, fresh_large N k n (by omega) (by omega) hc hk⟩
  · exact ⟨_, fresh_small N c n hN2 hc⟩

set_option maxHeartbeats 400000 in
theorem err_any (n : Int) (w : World) :
    Calls Try.prog 7 #[.int .i64 n] w fun e w' => e = .returned (.int .i64 n) ∧ w = w' := by
  go_enter Try.func7, Try.ntmps7
  go_wp2
  go_ret
  exact ⟨rfl, rfl⟩

theorem awake_used : usedK ((freshK 2).set 1 (.small 1 ((offs (roomOf 1)).set 0 true))) = 4 := by decide +kernel
end Go.Proofs.Ytjlbfojbgnhhbaa
