/-
  Contracts of what the statement calls, one text behind the other (HeadRef, ObjM, SpaceAns, ObjT, Class, ClassOps, RSpaceAt, RSpaceFind, RSpaceEach, RSpaceUsed).
-/
import Derived.Test.YtgpidokklhjfdaaGreatPart2
import Derived.Test.YtgpidokklhjfdaaGreatPart1
import Derived.Test.YtgpidokklhjfdaaGreatRows
import Derived.Deep.AppendLies
import Derived.Deep.RegionHeld3
import Derived.Deep.RegionLaw

/-
  The document's own words on heads: what its calls answer; and the examples of the eighth folder.
-/
namespace Go.Proofs.YtgpidokklhjfdaaGreat
open Go.RowKit

instance (x k c l : Int) (f : Bool) : Decidable (Word x k c l f) := by unfold Word; infer_instance

theorem hget_yes (x k c l : Int) (f : Bool) (w : World) (h : Word x k c l f) :
    Calls Tryz.prog 76 #[.int .i64 x] w fun e w' => e = .returned (.tuple #[.agg #[.int .i64 k, .int .i64 c, .int .i64 l, .bool f], .bool true]) ∧ Keep [] w w' := by
  obtain ⟨h1, h2, h3, h4, h5, h6⟩ := h.parts
  exact hget_raw_yes x k c l f w (by omega) h3 h4 h5 h6 h.1
theorem hget_no (x : Int) (w : World) (hx : -9223372036854775808 ≤ x ∧ x ≤ 9223372036854775807) (h : ∀ k c l f, ¬ Word x k c l f) :
    Calls Tryz.prog 76 #[.int .i64 x] w fun e w' => e = .returned (.tuple #[.agg #[.int .i64 0, .int .i64 0, .int .i64 0, .bool false], .bool false]) ∧ Keep [] w w' := by
  refine hget_raw_no x _ _ _ _ w hx rfl rfl rfl rfl ?_
  rw [Bool.eq_false_iff]
  exact fun hm => h _ _ _ _ (word_of hm)

set_option maxRecDepth 100000 in
set_option maxHeartbeats 800000 in
theorem rmayh_any (k c l : Int) (f : Bool) (w : World) : Calls Tryz.prog 89 #[.agg #[.int .i64 k, .int .i64 c, .int .i64 l, .bool f]] w fun e w' => e = .returned (.bool (mayH k c l f)) ∧ Keep [] w w' := by
  have hK1 := Keep.alloc [] w (.cells #[.int .i64 k, .int .i64 c, .int .i64 l, .bool f] 68)
  obtain ⟨m, hm⟩ : ∃ m, mayH k c l f = m := ⟨_, rfl⟩
  have HM := (show Hid (mayH k c l f = m) from hm)
  rw [hm]
  clear hm
  go_enter Tryz.func89, Tryz.ntmps89
  go_wp2_with fail
  all_goals
    go_ret
    refine ⟨?_, Keep.alloc _ _ _⟩
    rw [← HM.out]
    unfold mayH
    simp_all
    try (first | omega | rfl)

set_option maxRecDepth 100000 in
set_option maxHeartbeats 800000 in
theorem rputh_yes (k c l : Int) (f : Bool) (w : World) (hm : mayH k c l f = true) : Calls Tryz.prog 63 #[.agg #[.int .i64 k, .int .i64 c, .int .i64 l, .bool f]] w fun e w' => e = .returned (.int .i64 (putH k c l f)) ∧ Keep [] w w' := by
  obtain ⟨b1, b2, b3, b4, b5, b6⟩ := mayH_bd hm
  clear hm
  cases f
  all_goals
    go_enter Tryz.func63, Tryz.ntmps63
    go_wp2_with fail
    go_ret
    exact ⟨by simp [putH], Keep.alloc _ _ _⟩


end Go.Proofs.YtgpidokklhjfdaaGreat

/-
  Objects in words: plain facts on pages, words and classes; no program is spoken of but by the numbers of heads.
-/
namespace Go.Proofs.YtgpidokklhjfdaaGreat
open Go.RowKit

def inI (x : Int) : Prop := -9223372036854775808 ≤ x ∧ x ≤ 9223372036854775807

/-- The word x is that of a head that has room in m words, and whose class, if it has one, is there. -/
def HeadOk (ds : List (Int × List Int)) (m : Nat) (x : Int) : Prop := ∃ k c l f, Word x k c l f ∧ l + 1 ≤ m ∧ (k = 1 → ∃ (i : Nat) (L : List Int), c = (i : Int) + 1 ∧ ds[i]? = some (l, L))

/-- Every block has an object; all words are numbers. -/
structure OB (kd : List PK) (ws : List Int) (ds : List (Int × List Int)) : Prop where
  head : ∀ a m, findN kd a = some (a, m) → HeadOk ds m (ws[a]?.getD 0)
  bd : ∀ i : Nat, inI (ws[i]?.getD 0)

theorem inI_0 : inI 0 := by unfold inI; omega
theorem set_bd {ws : List Int} (h : ∀ i : Nat, inI (ws[i]?.getD 0)) (a : Nat) (x : Int) (hx : inI x) : ∀ i : Nat, inI ((ws.set a x)[i]?.getD 0) := by
  intro i
  by_cases e : a = i
  · subst e
    rcases Nat.lt_or_ge a ws.length with hl | hl
    · rw [set_get_same ws a x hl]; exact hx
    · rw [List.getElem?_eq_none (by simpa using hl)]; exact inI_0
  · rw [set_get_other ws a i x e]; exact h i
theorem fill_bd {ws : List Int} (h : ∀ i : Nat, inI (ws[i]?.getD 0)) (a b : Nat) (hl : a + b ≤ ws.length) : ∀ i : Nat, inI ((fill0 ws a b)[i]?.getD 0) := by
  intro i
  rw [fill0_get ws a b i hl]
  split
  · exact inI_0
  · exact h i

theorem HeadOk.more {ds : List (Int × List Int)} {m : Nat} {x : Int} (h : HeadOk ds m x) (d : Int × List Int) : HeadOk (ds ++ [d]) m x := by
  obtain ⟨k, c, l, f, h1, h2, h3⟩ := h
  refine ⟨k, c, l, f, h1, h2, fun e => ?_⟩
  obtain ⟨i, L, e1, e2⟩ := h3 e
  have hi : i < ds.length := by
    rcases Nat.lt_or_ge i ds.length with hi | hi
    · exact hi
    · rw [List.getElem?_eq_none hi] at e2; cases e2
  exact ⟨i, L, e1, by rw [List.getElem?_append_left hi]; exact e2⟩
theorem OB.add {kd : List PK} {ws : List Int} {ds : List (Int × List Int)} (h : OB kd ws ds) (d : Int × List Int) : OB kd ws (ds ++ [d]) := ⟨fun a m e => (h.head a m e).more d, h.bd⟩

theorem OB.fresh (n : Nat) (hn : 1 ≤ n) : OB (freshK n) (zeros (64 * n)) [] :=
  ⟨fun a m e => (by rw [freshK_find n a hn] at e; cases e), fun i => (by rw [zeros_get]; exact inI_0)⟩

/-- Two blocks share no word. -/
theorem WF.apart {kd : List PK} (h : WF kd) {a m b n x : Nat} (ha : findN kd a = some (a, m)) (hb : findN kd b = some (b, n)) (h1 : a ≤ x) (h2 : x < a + m) (h3 : b ≤ x) (h4 : x < b + n) : a = b ∧ m = n := by
  obtain ⟨_, _, _, _, _, e1⟩ := h.found ha
  obtain ⟨_, _, _, _, _, e2⟩ := h.found hb
  have := (e1 x h1 h2).symm.trans (e2 x h3 h4)
  simpa using this

/-- A word that is no head is written. -/
theorem OB.field {kd : List PK} {ws : List Int} {ds : List (Int × List Int)} (h : OB kd ws ds) (hw : WF kd) {a m i : Nat} (ha : findN kd a = some (a, m)) (h1 : a < i) (h2 : i < a + m) (x : Int) (hx : inI x) : OB kd (ws.set i x) ds := by
  refine ⟨fun b n e => ?_, set_bd h.bd i x hx⟩
  rw [set_get_other ws i b x (fun e' => by
    subst e'
    obtain ⟨g1, g2, _⟩ := hw.found e
    obtain ⟨rfl, _⟩ := hw.apart ha e (by omega) h2 g1 g2
    omega)]
  exact h.head b n e
/-- A head is written. -/
theorem OB.setHead {kd : List PK} {ws : List Int} {ds : List (Int × List Int)} (h : OB kd ws ds) {a m : Nat} (ha : findN kd a = some (a, m)) (hl : a < ws.length) (x : Int) (hx : HeadOk ds m x) (hi : inI x) : OB kd (ws.set a x) ds := by
  refine ⟨fun b n e => ?_, set_bd h.bd a x hi⟩
  by_cases hb : a = b
  · subst hb
    rw [set_get_same ws a x hl]
    rw [ha] at e
    cases e
    exact hx
  · rw [set_get_other ws a b x hb]
    exact h.head b n e
/-- A block is made, and its head written. -/
theorem OB.make {kd kd' : List PK} {ws : List Int} {ds : List (Int × List Int)} {n : Int} {a b : Nat} (h : OB kd ws ds) (hw : WF kd) (hl : ws.length = 64 * kd.length) (hr : AllocR kd n (some (a, kd'))) (hb : blockI n = b) (x : Int) (hx : HeadOk ds b x) (hi : inI x) : OB kd' ((fill0 ws a b).set a x) ds := by
  obtain ⟨b', hb', h1, h2, h3, h4, h5, h6, h7⟩ := hr.spec hw
  obtain rfl : b = b' := by rw [hb] at hb'; omega
  have hfl := fill0_length ws a b (by omega)
  refine ⟨fun c m e => ?_, set_bd (fill_bd h.bd a b (by omega)) a x hi⟩
  rw [h7 c] at e
  split at e
  · cases e
    rw [set_get_same _ _ _ (by omega)]
    exact hx
  · have hca : a ≠ c := by omega
    rw [set_get_other _ _ _ _ hca, fill0_get _ _ _ _ (by omega), if_neg (by assumption)]
    exact h.head c m e
/-- A block is freed. -/
theorem OB.free {kd kd' : List PK} {ws : List Int} {ds : List (Int × List Int)} {a m : Nat} (h : OB kd ws ds) (hw : WF kd) (hf : findN kd a = some (a, m)) (hr : FreeR kd a kd') : OB kd' ws ds := by
  obtain ⟨_, _, h3⟩ := hr.spec hw hf
  refine ⟨fun c n e => ?_, h.bd⟩
  rw [h3 c] at e
  split at e
  · cases e
  · exact h.head c n e

/-- An object at a: its head. -/
def At (kd : List PK) (ws : List Int) (a : Int) (b m : Nat) (k c l : Int) (f : Bool) : Prop := a = (b : Int) ∧ findN kd b = some (b, m) ∧ Word (ws[b]?.getD 0) k c l f
/-- No block begins at a. -/
def NotAt (kd : List PK) (a : Int) : Prop := ∀ s n, findI kd a = some (s, n) → (s : Int) ≠ a
theorem at_or {kd : List PK} {ws : List Int} {ds : List (Int × List Int)} (h : OB kd ws ds) (a : Int) : (∃ b m k c l f, At kd ws a b m k c l f ∧ l + 1 ≤ m ∧ (k = 1 → ∃ (i : Nat) (L : List Int), c = (i : Int) + 1 ∧ ds[i]? = some (l, L))) ∨ NotAt kd a := by
  by_cases e : ∃ s n, findI kd a = some (s, n) ∧ (s : Int) = a
  · obtain ⟨s, n, h1, h2⟩ := e
    have h3 : findN kd s = some (s, n) := by
      unfold findI at h1
      rw [if_neg (by omega), ← h2, Int.toNat_natCast] at h1
      exact h1
    obtain ⟨k, c, l, f, g1, g2, g3⟩ := h.head s n h3
    exact .inl ⟨s, n, k, c, l, f, ⟨h2.symm, h3, g1⟩, g2, g3⟩
  · exact .inr (fun s n e1 e2 => e ⟨s, n, e1, e2⟩)

end Go.Proofs.YtgpidokklhjfdaaGreat

/-
  What Alloc and Free answer and leave, whatever is asked: plain facts.
-/
namespace Go.Proofs.YtgpidokklhjfdaaGreat
open Go.RowKit

/-- What Alloc answers and leaves. -/
inductive AllocT (kd : List PK) (ws : List Int) (n : Int) : Int → Int → List Int → List PK → Prop
  | arg : blockI n = 0 → AllocT kd ws n 0 1 ws kd
  | no : blockI n ≠ 0 → AllocR kd n none → AllocT kd ws n 0 3 ws kd
  | yes (a b : Nat) (kd' : List PK) : AllocR kd n (some (a, kd')) → blockI n = b → AllocT kd ws n a 0 (fill0 ws a b) kd'
theorem allocT_ex {kd : List PK} (ws : List Int) (n : Int) (hw : WF kd) : ∃ N E ws' kd', AllocT kd ws n N E ws' kd' := by
  by_cases hb : blockI n = 0
  · exact ⟨_, _, _, _, .arg hb⟩
  · obtain ⟨r, hr⟩ := alloc_ex kd n hb
    cases r with
    | none => exact ⟨_, _, _, _, .no hb hr⟩
    | some r =>
      obtain ⟨a, kd'⟩ := r
      obtain ⟨b, hb', _⟩ := hr.spec hw
      exact ⟨_, _, _, _, .yes a b kd' hr hb'⟩
theorem AllocT.spec {kd kd' : List PK} {ws ws' : List Int} {n N E : Int} (h : AllocT kd ws n N E ws' kd') (hw : WF kd) (hl : ws.length = 64 * kd.length) :
    WF kd' ∧ kd'.length = kd.length ∧ ws'.length = ws.length ∧ (E = 0 ∧ (∃ a : Nat, N = a ∧ a < ws.length) ∨ (E = 1 ∨ E = 3) ∧ N = 0) := by
  cases h with
  | arg h => exact ⟨hw, rfl, rfl, .inr ⟨.inl rfl, rfl⟩⟩
  | no h hr => exact ⟨hw, rfl, rfl, .inr ⟨.inr rfl, rfl⟩⟩
  | yes a b kd' hr hb =>
    obtain ⟨b', hb', h1, h2, h3, h4, h5, _⟩ := hr.spec hw
    obtain rfl : b = b' := by rw [hb] at hb'; omega
    exact ⟨h2, h3, fill0_length _ _ _ (by omega), .inl ⟨rfl, a, rfl, by omega⟩⟩
/-- What Free answers and leaves. -/
inductive FreeT (kd : List PK) (a : Int) : Int → List PK → Prop
  | no : (∀ s n, findI kd a = some (s, n) → (s : Int) ≠ a) → FreeT kd a 2 kd
  | yes (b m : Nat) (kd' : List PK) : a = b → findN kd b = some (b, m) → FreeR kd b kd' → FreeT kd a 0 kd'
theorem freeT_ex {kd : List PK} (a : Int) (hw : WF kd) : ∃ E kd', FreeT kd a E kd' := by
  by_cases h : ∃ s n, findI kd a = some (s, n) ∧ (s : Int) = a
  · obtain ⟨s, n, h1, h2⟩ := h
    have h3 : findN kd s = some (s, n) := by
      unfold findI at h1
      rw [if_neg (by omega), ← h2, Int.toNat_natCast] at h1
      exact h1
    obtain ⟨kd', hr⟩ := FreeR.ex hw h3
    exact ⟨_, _, .yes s n kd' h2.symm h3 hr⟩
  · exact ⟨_, _, .no (fun s n e e' => h ⟨s, n, e, e'⟩)⟩
theorem FreeT.spec {kd kd' : List PK} {a E : Int} (h : FreeT kd a E kd') (hw : WF kd) : WF kd' ∧ kd'.length = kd.length := by
  cases h with
  | no h => exact ⟨hw, rfl⟩
  | yes b m kd' e hf hr => exact ⟨(hr.spec hw hf).1, (hr.spec hw hf).2.1⟩

theorem each_fresh (n : Nat) (h : 1 ≤ n) : eachK (freshK n) = [] := by
  rw [List.eq_nil_iff_forall_not_mem]
  intro x hx
  obtain ⟨p, _, hm⟩ := eachTo_mem _ _ x hx
  rw [freshK_at n p h] at hm
  split at hm <;> cases hm
theorem used_fresh (n : Nat) (h : 1 ≤ n) : usedK (freshK n) = 0 := by unfold usedK; rw [each_fresh n h]; rfl

end Go.Proofs.YtgpidokklhjfdaaGreat

/-
  What the calls of a heap answer and leave, whatever is asked: plain facts.
-/
namespace Go.Proofs.YtgpidokklhjfdaaGreat
open Go.RowKit

/-- What its numbers are: every block has an object. -/
structure Fine (ws : List Int) (kd : List PK) (ds : List (Int × List Int)) : Prop where
  wf : WF kd
  ob : OB kd ws ds
  few : ds.length ≤ 256
  len : ws.length = 64 * kd.length

theorem room_ge (n : Int) (h1 : 1 ≤ n) (h2 : n ≤ 1024) : n ≤ blockI n := by
  unfold blockI classI pagesI sizesL
  repeat' split
  all_goals (simp at *; try omega)
theorem class_in {ds : List (Int × List Int)} {c : Int} (h1 : 1 ≤ c) (h2 : c ≤ ds.length) : ∃ (i : Nat) (d : Int × List Int), c = (i : Int) + 1 ∧ ds[i]? = some d := by
  have h3 : (c - 1).toNat < ds.length := by omega
  exact ⟨(c - 1).toNat, ds[(c - 1).toNat], by omega, by simp⟩

/-- Whether a block begins at a. -/
def isAt (kd : List PK) (a : Int) : Bool := match findI kd a with | some (s, _) => (s : Int) == a | none => false
theorem find_nat (kd : List PK) (b : Nat) : findI kd (b : Int) = findN kd b := by unfold findI; rw [if_neg (by omega), Int.toNat_natCast]
theorem isAt_yes {kd : List PK} {ws : List Int} {a k c l : Int} {b m : Nat} {f : Bool} (h : At kd ws a b m k c l f) : isAt kd a = true := by
  obtain ⟨rfl, h1, _⟩ := h
  unfold isAt
  rw [find_nat, h1]
  simp
theorem isAt_no {kd : List PK} {a : Int} (h : NotAt kd a) : isAt kd a = false := by
  unfold isAt
  cases e : findI kd a with
  | none => rfl
  | some o => obtain ⟨s, n⟩ := o; simpa using h s n e

/-- What Head answers. -/
inductive HeadT (kd : List PK) (ws : List Int) (a : Int) : Int → Int → Int → Bool → Int → Prop
  | no : NotAt kd a → HeadT kd ws a 0 0 0 false 2
  | yes (b m : Nat) (k c l : Int) (f : Bool) : At kd ws a b m k c l f → HeadT kd ws a k c l f 0
theorem headT_ex {kd : List PK} {ws : List Int} {ds : List (Int × List Int)} (h : OB kd ws ds) (a : Int) : ∃ k c l f E, HeadT kd ws a k c l f E := by
  rcases at_or h a with ⟨b, m, k, c, l, f, h1, _⟩ | h1
  · exact ⟨_, _, _, _, _, .yes b m k c l f h1⟩
  · exact ⟨_, _, _, _, _, .no h1⟩
theorem Word.bd {x k c l : Int} {f : Bool} (h : Word x k c l f) : 1 ≤ k ∧ k ≤ 4 ∧ 0 ≤ c ∧ c ≤ 256 ∧ 0 ≤ l ∧ l ≤ 1023 := mayH_bd h.1

/-- Where a field lies. -/
inductive PlaceT (kd : List PK) (ws : List Int) (a i : Int) : Nat → Int → Prop
  | none : NotAt kd a → PlaceT kd ws a i 0 2
  | arg (b m : Nat) (k c l : Int) (f : Bool) : At kd ws a b m k c l f → ¬ (0 ≤ i ∧ i < l) → PlaceT kd ws a i 0 1
  | yes (b m j : Nat) (k c l : Int) (f : Bool) : At kd ws a b m k c l f → i = j → (j : Int) < l → l + 1 ≤ m → PlaceT kd ws a i (b + 1 + j) 0
theorem placeT_ex {kd : List PK} {ws : List Int} {ds : List (Int × List Int)} (h : OB kd ws ds) (a i : Int) : ∃ p E, PlaceT kd ws a i p E := by
  rcases at_or h a with ⟨b, m, k, c, l, f, h1, h2, _⟩ | h1
  · by_cases hi : 0 ≤ i ∧ i < l
    · obtain ⟨j, rfl⟩ := Int.eq_ofNat_of_zero_le hi.1
      exact ⟨_, _, .yes b m j k c l f h1 rfl hi.2 h2⟩
    · exact ⟨_, _, .arg b m k c l f h1 hi⟩
  · exact ⟨_, _, .none h1⟩
theorem At.facts {kd : List PK} {ws : List Int} {a k c l : Int} {b m : Nat} {f : Bool} (h : At kd ws a b m k c l f) (hw : WF kd) : a = b ∧ 64 ≤ b ∧ b + m ≤ 64 * kd.length ∧ m ≤ 1024 ∧ 1 ≤ m ∧ kd.length ≤ 256 := by
  obtain ⟨e, h1, _⟩ := h
  obtain ⟨g1, g2, g3, g4, g5, _⟩ := hw.found h1
  exact ⟨e, g3, g4, g5, by omega, hw.len2⟩
/-- What Field answers. -/
inductive FieldT (kd : List PK) (ws : List Int) (a i : Int) : Int → Int → Prop
  | no (E : Int) : PlaceT kd ws a i 0 E → E = 1 ∨ E = 2 → FieldT kd ws a i 0 E
  | yes (p : Nat) : PlaceT kd ws a i p 0 → p < ws.length → FieldT kd ws a i (ws[p]?.getD 0) 0
/-- What Put answers and leaves. -/
inductive PutT (kd : List PK) (ws : List Int) (a i x : Int) : Int → List Int → Prop
  | no (E : Int) : PlaceT kd ws a i 0 E → E = 1 ∨ E = 2 → PutT kd ws a i x E ws
  | yes (p : Nat) : PlaceT kd ws a i p 0 → p < ws.length → PutT kd ws a i x 0 (ws.set p x)
theorem PlaceT.or {kd : List PK} {ws : List Int} {a i E : Int} {p : Nat} (h : PlaceT kd ws a i p E) (hw : WF kd) (hl : ws.length = 64 * kd.length) : (p = 0 ∧ (E = 1 ∨ E = 2)) ∨ (E = 0 ∧ p < ws.length) := by
  cases h with
  | none h => exact .inl ⟨rfl, .inr rfl⟩
  | arg b m k c l f h h' => exact .inl ⟨rfl, .inl rfl⟩
  | yes b m j k c l f h h1 h2 h3 =>
    have := h.facts hw
    exact .inr ⟨rfl, by omega⟩
theorem fieldT_ex {kd : List PK} {ws : List Int} {ds : List (Int × List Int)} (h : Fine ws kd ds) (a i : Int) : ∃ N E, FieldT kd ws a i N E := by
  obtain ⟨p, E, hp⟩ := placeT_ex h.ob a i
  rcases hp.or h.wf h.len with ⟨rfl, e⟩ | ⟨rfl, e⟩
  · exact ⟨_, _, .no E hp e⟩
  · exact ⟨_, _, .yes p hp e⟩
theorem putT_ex {kd : List PK} {ws : List Int} {ds : List (Int × List Int)} (h : Fine ws kd ds) (a i x : Int) : ∃ E ws', PutT kd ws a i x E ws' := by
  obtain ⟨p, E, hp⟩ := placeT_ex h.ob a i
  rcases hp.or h.wf h.len with ⟨rfl, e⟩ | ⟨rfl, e⟩
  · exact ⟨_, _, .no E hp e⟩
  · exact ⟨_, _, .yes p hp e⟩
theorem PutT.fine {kd : List PK} {ws ws' : List Int} {ds : List (Int × List Int)} {a i x E : Int} (h : PutT kd ws a i x E ws') (hf : Fine ws kd ds) (hx : inI x) : Fine ws' kd ds := by
  cases h with
  | no E h _ => exact hf
  | yes p h hp =>
    cases h with
    | yes b m j k c l f h h1 h2 h3 =>
      exact ⟨hf.wf, hf.ob.field hf.wf h.2.1 (by omega) (by omega) x hx, hf.few, by rw [List.length_set]; exact hf.len⟩

/-- What Final answers and leaves. -/
inductive FinalT (kd : List PK) (ws : List Int) (a : Int) : Int → List Int → Prop
  | none : NotAt kd a → FinalT kd ws a 2 ws
  | kind (b m : Nat) (c l : Int) (f : Bool) : At kd ws a b m 4 c l f → FinalT kd ws a 5 ws
  | has (b m : Nat) (k c l : Int) : At kd ws a b m k c l true → k ≠ 4 → FinalT kd ws a 4 ws
  | yes (b m : Nat) (k c l : Int) : At kd ws a b m k c l false → k ≠ 4 → FinalT kd ws a 0 (ws.set b (putH k c l true))
theorem finalT_ex {kd : List PK} {ws : List Int} {ds : List (Int × List Int)} (h : OB kd ws ds) (a : Int) : ∃ E ws', FinalT kd ws a E ws' := by
  rcases at_or h a with ⟨b, m, k, c, l, f, h1, h2, _⟩ | h1
  · by_cases hk : k = 4
    · subst hk; exact ⟨_, _, .kind b m c l f h1⟩
    · cases f
      · exact ⟨_, _, .yes b m k c l h1 hk⟩
      · exact ⟨_, _, .has b m k c l h1 hk⟩
  · exact ⟨_, _, .none h1⟩
theorem may_final {k c l : Int} (h : mayH k c l false = true) (hk : k ≠ 4) : mayH k c l true = true := by
  unfold mayH at *; simp at h ⊢; omega
theorem put_in {k c l : Int} {f : Bool} (h : mayH k c l f = true) : inI (putH k c l f) := by
  have := mayH_bd h
  unfold inI putH
  split <;> omega
theorem FinalT.fine {kd : List PK} {ws ws' : List Int} {ds : List (Int × List Int)} {a E : Int} (h : FinalT kd ws a E ws') (hf : Fine ws kd ds) : Fine ws' kd ds := by
  cases h with
  | none h => exact hf
  | kind b m c l f h => exact hf
  | has b m k c l h hk => exact hf
  | yes b m k c l h hk =>
    obtain ⟨_, e1, e2, e3, e4, e5⟩ := h.facts hf.wf
    have hm := may_final h.2.2.1 hk
    refine ⟨hf.wf, hf.ob.setHead h.2.1 (by have := hf.len; omega) _ ?_ (put_in hm), hf.few, by rw [List.length_set]; exact hf.len⟩
    obtain ⟨k', c', l', f', g1, g2, g3⟩ := hf.ob.head b m h.2.1
    obtain ⟨_, _, p1, p2, p3, p4⟩ := g1.parts
    obtain ⟨_, _, q1, q2, q3, q4⟩ := h.2.2.parts
    obtain rfl : k = k' := by rw [← p1, ← q1]
    obtain rfl : c = c' := by rw [← p2, ← q2]
    obtain rfl : l = l' := by rw [← p3, ← q3]
    exact ⟨k, c, l, true, ⟨hm, rfl⟩, g2, g3⟩

/-- The first numbers. -/
def upL (l : Int) : List Int := (List.range l.toNat).map (fun i : Nat => (i : Int))
theorem upL_length (l : Int) : (upL l).length = l.toNat := by simp [upL]
theorem upL_get (l : Int) (i : Nat) (h : i < l.toNat) : (upL l)[i]?.getD 0 = i := by simp [upL, h]
/-- What Refs answers. -/
inductive RefsT (kd : List PK) (ws : List Int) (ds : List (Int × List Int)) (a : Int) : List Int → Prop
  | none : NotAt kd a → RefsT kd ws ds a []
  | plain (b m i : Nat) (c l : Int) (f : Bool) (L : List Int) : At kd ws a b m 1 c l f → c = (i : Int) + 1 → ds[i]? = some (l, L) → RefsT kd ws ds a L
  | refs (b m : Nat) (c l : Int) (f : Bool) : At kd ws a b m 2 c l f → RefsT kd ws ds a (upL l)
  | data (b m : Nat) (c l : Int) (f : Bool) : At kd ws a b m 3 c l f → RefsT kd ws ds a []
  | ref (b m : Nat) (c l : Int) (f : Bool) : At kd ws a b m 4 c l f → RefsT kd ws ds a [2]
theorem refsT_ex {kd : List PK} {ws : List Int} {ds : List (Int × List Int)} (h : OB kd ws ds) (a : Int) : ∃ L, RefsT kd ws ds a L := by
  rcases at_or h a with ⟨b, m, k, c, l, f, h1, h2, h3⟩ | h1
  · have hb := h1.2.2.bd
    rcases (show k = 1 ∨ k = 2 ∨ k = 3 ∨ k = 4 by omega) with rfl | rfl | rfl | rfl
    · obtain ⟨i, L, e1, e2⟩ := h3 rfl
      exact ⟨_, .plain b m i c l f L h1 e1 e2⟩
    · exact ⟨_, .refs b m c l f h1⟩
    · exact ⟨_, .data b m c l f h1⟩
    · exact ⟨_, .ref b m c l f h1⟩
  · exact ⟨_, .none h1⟩

/-- Whether an object may be made, but for room: the error. -/
inductive FitsT (ds : List (Int × List Int)) (k c l : Int) : Int → Prop
  | other : k ≠ 1 → FitsT ds k c l 0
  | none : k = 1 → c < 1 ∨ (ds.length : Int) < c → FitsT ds k c l 2
  | arg (i : Nat) (n : Int) (L : List Int) : k = 1 → c = (i : Int) + 1 → ds[i]? = some (n, L) → l ≠ n → FitsT ds k c l 1
  | yes (i : Nat) (L : List Int) : k = 1 → c = (i : Int) + 1 → ds[i]? = some (l, L) → FitsT ds k c l 0
theorem fitsT_ex (ds : List (Int × List Int)) (k c l : Int) : ∃ E, FitsT ds k c l E := by
  by_cases hk : k = 1
  · by_cases hc : c < 1 ∨ (ds.length : Int) < c
    · exact ⟨_, .none hk hc⟩
    · obtain ⟨i, ⟨n, L⟩, e1, e2⟩ := class_in (ds := ds) (c := c) (by omega) (by omega)
      by_cases hl : l = n
      · subst hl; exact ⟨_, .yes i L hk e1 e2⟩
      · exact ⟨_, .arg i n L hk e1 e2 hl⟩
  · exact ⟨_, .other hk⟩
theorem FitsT.errs {ds : List (Int × List Int)} {k c l E : Int} (h : FitsT ds k c l E) : E = 0 ∨ E = 1 ∨ E = 2 := by
  cases h <;> simp
/-- What Make answers and leaves. -/
inductive MakeT (kd : List PK) (ws : List Int) (ds : List (Int × List Int)) (k c l : Int) (f : Bool) : Int → Int → List Int → List PK → Prop
  | arg : (mayH k c l f && !f) = false → MakeT kd ws ds k c l f 0 1 ws kd
  | fits (E : Int) : mayH k c l f = true → f = false → FitsT ds k c l E → E ≠ 0 → MakeT kd ws ds k c l f 0 E ws kd
  | full : mayH k c l f = true → f = false → FitsT ds k c l 0 → AllocR kd (l + 1) none → MakeT kd ws ds k c l f 0 3 ws kd
  | yes (a b : Nat) (kd' : List PK) : mayH k c l f = true → f = false → FitsT ds k c l 0 → AllocR kd (l + 1) (some (a, kd')) → blockI (l + 1) = b → MakeT kd ws ds k c l f a 0 ((fill0 ws a b).set a (putH k c l false)) kd'
theorem makeT_ex {kd : List PK} (ws : List Int) (ds : List (Int × List Int)) (k c l : Int) (f : Bool) (hw : WF kd) : ∃ N E ws' kd', MakeT kd ws ds k c l f N E ws' kd' := by
  cases hm : mayH k c l f
  · exact ⟨_, _, _, _, .arg (by rw [hm]; rfl)⟩
  · cases f
    · obtain ⟨E, hE⟩ := fitsT_ex ds k c l
      by_cases e : E = 0
      · subst e
        have hb := mayH_bd hm
        have hg := room_ge (l + 1) (by omega) (by omega)
        obtain ⟨r, hr⟩ := alloc_ex kd (l + 1) (by omega)
        cases r with
        | none => exact ⟨_, _, _, _, .full hm rfl hE hr⟩
        | some r =>
          obtain ⟨a, kd'⟩ := r
          obtain ⟨b, hb', _⟩ := hr.spec hw
          exact ⟨_, _, _, _, .yes a b kd' hm rfl hE hr hb'⟩
      · exact ⟨_, _, _, _, .fits E hm rfl hE e⟩
    · exact ⟨_, _, _, _, .arg (by simp)⟩
theorem MakeT.fine {kd kd' : List PK} {ws ws' : List Int} {ds : List (Int × List Int)} {k c l N E : Int} {f : Bool} (h : MakeT kd ws ds k c l f N E ws' kd') (hf : Fine ws kd ds) : Fine ws' kd' ds ∧ kd'.length = kd.length := by
  cases h with
  | arg h => exact ⟨hf, rfl⟩
  | fits E _ _ _ _ => exact ⟨hf, rfl⟩
  | full _ _ _ _ => exact ⟨hf, rfl⟩
  | yes a b kd' hm e hF hr hb =>
    subst e
    obtain ⟨b', hb', h1, h2, h3, h4, h5, h6, h7⟩ := hr.spec hf.wf
    obtain rfl : b = b' := by rw [hb] at hb'; omega
    have hbd := mayH_bd hm
    have hg := room_ge (l + 1) (by omega) (by omega)
    refine ⟨⟨h2, hf.ob.make hf.wf hf.len hr hb _ ⟨k, c, l, false, ⟨hm, rfl⟩, by omega, fun e => ?_⟩ (put_in hm), hf.few, by rw [List.length_set, fill0_length _ _ _ (by have := hf.len; omega), h3]; exact hf.len⟩, h3⟩
    cases hF with
    | other h => exact absurd e h
    | yes i L _ e1 e2 => exact ⟨i, L, e1, e2⟩
theorem FreeT.fine {kd kd' : List PK} {ws : List Int} {ds : List (Int × List Int)} {a E : Int} (h : FreeT kd a E kd') (hf : Fine ws kd ds) : Fine ws kd' ds := by
  cases h with
  | no h => exact hf
  | yes b m kd' e hF hr => exact ⟨(hr.spec hf.wf hF).1, hf.ob.free hf.wf hF hr, hf.few, by rw [(hr.spec hf.wf hF).2.1]; exact hf.len⟩
theorem Fine.fresh (n : Nat) (h1 : 1 ≤ n) (h2 : n ≤ 256) : Fine (zeros (64 * n)) (freshK n) [] := ⟨freshK_wf n h1 h2, OB.fresh n h1, by simp, by rw [zeros_length, freshK_length]⟩

end Go.Proofs.YtgpidokklhjfdaaGreat

/-
  Package class: what its calls answer and leave, over a table in memory.
-/
namespace Go.Proofs.YtgpidokklhjfdaaGreat
open Go.RowKit

theorem Tryz.infoIntC : (Tryz.prog.info? 3).map (fun i => (i.zero, i.size, i.bytes)) = some (some (.int .i64 0), 1, 8) := by kernel_rfl
theorem Tryz.infoClass : (Tryz.prog.info? 76).map (fun i => (i.zero, i.size, i.bytes)) = some (some (.agg #[.int .i64 0, .slice none 0 0]), 2, 32) := by kernel_rfl

/-- Address i of a class of f fields is one, and lies behind the one ahead. -/
def okAt (f : Int) (L : List Int) (i : Nat) : Prop := 0 ≤ L[i]?.getD 0 ∧ L[i]?.getD 0 < f ∧ (0 < i → L[i - 1]?.getD 0 < L[i]?.getD 0)
instance (f : Int) (L : List Int) (i : Nat) : Decidable (okAt f L i) := by unfold okAt; infer_instance
/-- A class that may be. -/
def mayP (f : Int) (L : List Int) : Prop := 0 ≤ f ∧ f ≤ 1023 ∧ ∀ i, i < L.length → okAt f L i
instance (f : Int) (L : List Int) : Decidable (mayP f L) := by unfold mayP; infer_instance
def mayB (f : Int) (L : List Int) : Bool := decide (mayP f L)
theorem mayB_yes {f : Int} {L : List Int} (h1 : 0 ≤ f) (h2 : f ≤ 1023) (h : ∀ i, i < L.length → okAt f L i) : mayB f L = true := decide_eq_true ⟨h1, h2, h⟩
theorem mayB_low {f : Int} {L : List Int} (h1 : ¬ (0 ≤ f ∧ f ≤ 1023)) : mayB f L = false := decide_eq_false (fun h => h1 ⟨h.1, h.2.1⟩)
theorem mayB_no {f : Int} {L : List Int} (i : Nat) (hi : i < L.length) (h : ¬ okAt f L i) : mayB f L = false := decide_eq_false (fun k => h (k.2.2 i hi))
theorem mayB_iff {f : Int} {L : List Int} : mayB f L = true ↔ mayP f L := by unfold mayB; simp
/-- The address ahead of number j. -/
def lastI (L : List Int) (j : Nat) : Int := if j = 0 then -1 else L[j - 1]?.getD 0
theorem lastI_succ (L : List Int) (j : Nat) : lastI L (j + 1) = L[j]?.getD 0 := by simp [lastI]
theorem okAt_iff {f : Int} {L : List Int} {j : Nat} (hj : j < L.length) (h : ∀ i, i < j → okAt f L i) : okAt f L j ↔ lastI L j < L[j]?.getD 0 ∧ L[j]?.getD 0 < f := by
  unfold okAt lastI
  rcases Nat.eq_zero_or_pos j with rfl | hp
  · simp; omega
  · have := (h (j - 1) (by omega)).1
    rw [if_neg (by omega)]
    constructor
    · rintro ⟨a, b, c⟩; exact ⟨c hp, b⟩
    · rintro ⟨a, b⟩; exact ⟨by omega, b, fun _ => a⟩
theorem lastI_bd {w : World} {ao : Option Addr} {L : List Int} (h : IntsAt w ao L) (j : Nat) : -9223372036854775808 ≤ lastI L j ∧ lastI L j ≤ 9223372036854775807 := by
  unfold lastI
  split
  · omega
  · exact ⟨h.low _, h.high _⟩

set_option maxHeartbeats 800000 in
theorem may_any (f : Int) (ao : Option Addr) (n c : Nat) (L : List Int) (w : World) (hA : IntsAt w ao L) (hn : L.length = n) (hb : n ≤ 9223372036854775807) :
    Calls Tryz.prog 80 #[.agg #[.int .i64 f, .slice ao n c]] w fun e w' => e = .returned (.bool (mayB f L)) ∧ Keep [] w w' := by
  have hK1 := Keep.alloc [] w (.cells #[.int .i64 f, .slice ao n c] 76)
  by_cases hf : 0 ≤ f ∧ f ≤ 1023
  · obtain ⟨hf1, hf2⟩ := hf
    have hd1 : decide (f < 0) = false := by rw [decide_eq_false_iff_not]; omega
    have HI := (show Hid (0 < n → ∃ b off, ao = some ⟨b, off, none⟩ ∧ b < w.heap.size ∧ ∀ i, i < n → w.cell? ⟨b, off + i, none⟩ = some (.int .i64 (L[i]?.getD 0))) from fun h => by rw [← hn] at h ⊢; exact hA.cells h)
    have HA := (show Hid (IntsAt w ao L) from hA)
    have HN := (show Hid (L.length = n) from hn)
    clear hA hn
    have hx1 := heap_alloc_new w (.cells #[.int .i64 f, .slice ao n c] 76)
    go_enter Tryz.func80, Tryz.ntmps80
    go_wp2
    generalize w.alloc (.cells #[.int .i64 f, .slice ao n c] 76) = w1 at *
    obtain ⟨bx, hbx⟩ : ∃ bx, w.heap.size = bx := ⟨_, rfl⟩
    rw [hbx] at hx1 ⊢
    have c0 : w1.cell? ⟨bx, 0, none⟩ = some (.int .i64 f) := by simp [World.cell?, hx1]
    clear hx1 hbx
    go_loopw [3, 17] (fun l i wr => ∃ j : Nat, l = .int .i64 (lastI L j) ∧ i = .int .i64 j ∧ j ≤ n ∧ (∀ i, i < j → okAt f L i) ∧ wr = w1) (fun _ i _ => n - (intOf i).toNat)
    case atStart => exact ⟨0, rfl, rfl, by omega, fun i h => by omega, rfl⟩
    case round =>
      obtain ⟨j, rfl, rfl, hj, hok, rfl⟩ := hrel
      have HO := (show Hid (∀ i, i < j → okAt f L i) from hok)
      clear hok
      by_cases hlt : j < n
      · obtain ⟨b, off, rfl, hbs, hcell⟩ := HI.out (by omega)
        have hc := (hK1.cell hbs (by simp) (off + j)).trans (hcell j hlt)
        have HQ := (show Hid (okAt f L j ↔ lastI L j < L[j]?.getD 0 ∧ L[j]?.getD 0 < f) from okAt_iff (by rw [HN.out]; exact hlt) HO.out)
        have HS := (show Hid (lastI L (j + 1) = L[j]?.getD 0) from lastI_succ L j)
        have hbl := lastI_bd HA.out j
        have hbr := And.intro (HA.out.low j) (HA.out.high j)
        generalize L[j]?.getD 0 = x at hc HQ HS hbr
        generalize lastI L j = l at *
        clear hcell
        by_cases h1 : x ≤ l
        · have HM := (show Hid (mayB f L = false) from mayB_no j (by rw [HN.out]; exact hlt) (fun k => by have := (HQ.out.1 k).1; omega))
          go_wp2_with fail
          go_ret
          rw [HM.out]; exact ⟨rfl, hK1⟩
        · have hd2 : decide (x ≤ l) = false := by rw [decide_eq_false_iff_not]; omega
          by_cases h2 : f ≤ x
          · have HM := (show Hid (mayB f L = false) from mayB_no j (by rw [HN.out]; exact hlt) (fun k => by have := (HQ.out.1 k).2; omega))
            go_wp2_with fail
            go_ret
            rw [HM.out]; exact ⟨rfl, hK1⟩
          · have HO2 := (show Hid (∀ i, i < j + 1 → okAt f L i) from fun i hi => by
              rcases Nat.lt_or_ge i j with h | h
              · exact HO.out i h
              · obtain rfl : i = j := by omega
                exact HQ.out.2 ⟨by omega, by omega⟩)
            go_wp2_with fail
            go_roundw
            case rel => exact ⟨j + 1, by rw [HS.out], by go_num, by omega, HO2.out, trivial⟩
            case measure => simp [intOf]; omega
      · obtain rfl : j = n := by omega
        have HM := (show Hid (mayB f L = true) from mayB_yes hf1 hf2 (by rw [HN.out]; exact HO.out))
        go_wp2
        go_ret
        rw [HM.out]; exact ⟨rfl, hK1⟩
  · rw [mayB_low hf]
    by_cases h0 : f < 0
    · go_enter Tryz.func80, Tryz.ntmps80
      go_wp2
      go_ret
      exact ⟨rfl, hK1⟩
    · have hd1 : decide (f < 0) = false := by rw [decide_eq_false_iff_not]; omega
      have h2 : 1023 < f := by omega
      clear hf
      go_enter Tryz.func80, Tryz.ntmps80
      go_wp2
      go_ret
      exact ⟨rfl, hK1⟩

/-- A slice of integers that a call hands back: what it holds, in memory that is new. -/
def GivesI (w w' : World) (v : Value) (L : List Int) : Prop := ∃ la lc, v = .slice la L.length lc ∧ IntsAt w' la L ∧ (la = none → lc = 0) ∧ ∀ a, la = some a → w.heap.size ≤ a.block ∧ a.block < w'.heap.size ∧ ∃ arr t, w'.heap[a.block]? = some (.cells arr t (0, 0))

/-- A row of one's own, as a slice. -/
theorem own_form {w : World} {base : Nat} {e : TypeId} {v : Value} {n : Nat} {L : List Int} (hown : w.ownsRow base e 1 v n (ints L)) (hbd : ∀ i : Nat, -9223372036854775808 ≤ L[i]?.getD 0 ∧ L[i]?.getD 0 ≤ 9223372036854775807) :
    ∃ la lc, v = .slice la n lc ∧ L.length = n ∧ IntsAt w la L ∧ (∀ a, la = some a → base ≤ a.block ∧ a.block < w.heap.size) ∧ (la = none → lc = 0) := by
  rcases own_ints hown hbd with ⟨rfl, rfl, rfl⟩ | ⟨gl, cap, rfl, h, hgl, hlt, hIL⟩
  · exact ⟨none, 0, rfl, rfl, IntsAt.nil _ _, fun a h => (by cases h), fun _ => rfl⟩
  · subst h; exact ⟨some ⟨gl, 0, none⟩, cap, rfl, rfl, hIL, fun a h => (by cases h; exact ⟨hgl, hlt⟩), fun h => (by cases h)⟩

/-- append onto nil, at a step of a region that draws: whatever is appended. -/
theorem step_append_nil {P : Program} {w : World} {ops : Array Oper} {o : Oper} {a : Act} {K : Act → World → Prop} {Q : Exit → Act → World → Prop} {E : Prop} (hgd : o.guard = none) (s x : Operand) (t : TypeId)
    (ho : o.op = .call { callee := .builtin .append, args := #[s, x], argTypes := #[t, t] })
    (e : TypeId) (i : TypeInfo) (ht : P.underlying t = some (.slice e)) (hi : P.info? e = some i ∧ i.zero = some (.int .i64 0) ∧ i.size = 1 ∧ i.bytes = 8)
    (L : List Int) (hs : a.eval s = .slice none 0 0) (xa : Option Addr) (m c : Nat) (hm : L.length = m)
    (hx : a.eval x = .slice xa m c) (hM : IntsAt w xa L) (hc : xa = none → c = 0) (hl : m ≤ 1000000)
    (h : ∀ la lc w', GivesI w w' (.slice la m lc) L → Keep [] w w' → K (a.put o.dst (.slice la m lc)) w') :
    if Region.wanted o (yielded ops a.tmps) = true then Oper.wp P o a w K Q else E := by
  have hw : Region.wanted o (yielded ops a.tmps) = true := by simp [Region.wanted, hgd]
  rw [if_pos hw]
  obtain ⟨h1, h2, h3, h4⟩ := hi
  subst hm
  cases xa with
  | none =>
    have h0 : L = [] := by
      rcases Nat.eq_zero_or_pos L.length with h0 | h0
      · exact List.length_eq_zero_iff.1 h0
      · obtain ⟨_, _, e, _⟩ := hM.cells h0; cases e
    subst h0
    obtain rfl := hc rfl
    have hrun := run_append_owned_none (P := P) (w := w) w.heap.size t o.type e i 1 ht h1 (.slice none 0 0) 0 [] (World.ownsRow_nil _ _ _ _)
    unfold Oper.wp
    simp at hx
    simp [execOp, ho, resolve, invoke, builtin, hs, hx, hrun, Result.andThen]
    exact h _ _ _ ⟨none, 0, rfl, IntsAt.nil _ _, fun _ => rfl, fun a e => by cases e⟩ (Keep.refl _ _)
  | some ad =>
    refine wp_append_own w s x t ho w.heap.size e i (.int .i64 0) 1 8 ht h1 h2 h3 h4 rfl (by decide) (.slice none 0 0) 0 [] hs (World.ownsRow_nil _ _ _ _) ad L.length c (ints L) hx (by rw [ints_length]; omega) ?_ (ints_one _) (by unfold maxLen; omega) (by omega) (Nat.le_refl _) ?_
    · intro j u hu
      have hj : j < L.length := by
        rcases Nat.lt_or_ge j L.length with hj | hj
        · exact hj
        · rw [List.getElem?_eq_none (by rw [ints_length]; exact hj)] at hu; cases hu
      obtain ⟨b, off, e1, _, hcell⟩ := hM.cells (by omega)
      cases e1
      rw [ints_get L j hj] at hu
      rw [Go.WideShapes.add_plain, hcell j hj]; exact hu
    · intro v' w' hown' hg _
      rw [List.nil_append] at hown'
      have hk := (Keep.refl [] w).grown hg (fun k e => by simp [Value.ownBlock] at e)
      have hfz : ∀ g, v'.ownBlock = some g → ∃ arr t, w'.heap[g]? = some (.cells arr t (0, 0)) := by
        intro g e
        rcases hown'.2 with ⟨e1, _⟩ | ⟨g', cap, cur, e1, _, e3, _⟩
        · subst e1; simp [Value.ownBlock] at e
        · subst e1; simp [Value.ownBlock] at e; subst e; exact ⟨_, _, e3⟩
      rcases own_ints hown' (fun i => ⟨hM.low i, hM.high i⟩) with ⟨e1, e2, _⟩ | ⟨g, cap, e1, _, h5, h6, h7⟩
      · subst e1 e2; exact h none 0 w' ⟨none, 0, rfl, IntsAt.nil _ _, fun _ => rfl, fun a e => by cases e⟩ hk
      · subst e1; exact h (some ⟨g, 0, none⟩) cap w' ⟨some ⟨g, 0, none⟩, cap, rfl, h7, (fun e => by cases e), (fun a e => by cases e; exact ⟨h5, h6, hfz g rfl⟩)⟩ hk

theorem GivesI.later {S : List Nat} {w0 w1 w2 w3 : World} {v : Value} {L : List Int} (h : GivesI w1 w2 v L) (K : Keep S w2 w3) (hS : ∀ k, k ∈ S → k < w1.heap.size) (h0 : w0.heap.size ≤ w1.heap.size) : GivesI w0 w3 v L := by
  obtain ⟨la, lc, rfl, h1, h2, h3⟩ := h
  exact ⟨la, lc, rfl, h1.keep K (fun _ a e k => by have := hS _ k; have := (h3 a e).1; omega), h2, fun a e => ⟨by have := (h3 a e).1; omega, Nat.lt_of_lt_of_le (h3 a e).2.1 K.size, by
    obtain ⟨arr, t, hb⟩ := (h3 a e).2.2
    exact ⟨arr, t, K.blk hb (fun k => by have := hS _ k; have := (h3 a e).1; omega)⟩⟩⟩

set_option maxHeartbeats 800000 in
theorem copied_any (f : Int) (ao : Option Addr) (n c : Nat) (L : List Int) (w : World) (hA : IntsAt w ao L) (hc : ao = none → c = 0) (hn : L.length = n) (hb : n ≤ 1000000) :
    Calls Tryz.prog 81 #[.agg #[.int .i64 f, .slice ao n c]] w fun e w' => ∃ v, e = .returned (.agg #[.int .i64 f, v]) ∧ GivesI w w' v L ∧ Keep [] w w' := by
  obtain ⟨i0, hi, hz0, hz1, hz2⟩ := info_parts Tryz.infoIntC
  have hI : Hid (Tryz.prog.info? 3 = some i0 ∧ i0.zero = some (.int .i64 0) ∧ i0.size = 1 ∧ i0.bytes = 8) := ⟨hi, hz0, hz1, hz2⟩
  clear hi hz0 hz1 hz2
  have hK1 := (Keep.alloc [] w (.cells #[.int .i64 f, .slice ao n c] 76)).trans (Keep.alloc [] (w.alloc (.cells #[.int .i64 f, .slice ao n c] 76)) (.cells #[.int .i64 0, .slice none 0 0] 76))
  have hx1 := (Keep.alloc [] (w.alloc (.cells #[.int .i64 f, .slice ao n c] 76)) (.cells #[.int .i64 0, .slice none 0 0] 76)).blk (heap_alloc_new w (.cells #[.int .i64 f, .slice ao n c] 76)) (by simp)
  have hx2 := heap_alloc_new (w.alloc (.cells #[.int .i64 f, .slice ao n c] 76)) (.cells #[.int .i64 0, .slice none 0 0] 76)
  have hs2 : (w.alloc (.cells #[.int .i64 f, .slice ao n c] 76)).heap.size = w.heap.size + 1 := by simp
  rw [hs2] at hx2
  have HA := (show Hid (IntsAt w ao L) from hA)
  have HN := (show Hid (L.length = n) from hn)
  have HC := (show Hid (ao = none → c = 0) from hc)
  clear hA hn hs2 hc
  go_enter Tryz.func81, Tryz.ntmps81
  go_wp2
  generalize (w.alloc (.cells #[.int .i64 f, .slice ao n c] 76)).alloc (.cells #[.int .i64 0, .slice none 0 0] 76) = w2 at *
  obtain ⟨bx, hbx⟩ : ∃ bx, w.heap.size = bx := ⟨_, rfl⟩
  rw [hbx] at hx1 hx2 ⊢
  obtain ⟨bw, hbw⟩ : ∃ bw, bx + 1 = bw := ⟨_, rfl⟩
  rw [hbw] at hx2 ⊢
  have hne : bx ≠ bw := by omega
  have c0 : w2.cell? ⟨bx, 0, none⟩ = some (.int .i64 f) := by simp [World.cell?, hx1]
  have c1 : w2.cell? ⟨bx, 1, none⟩ = some (.slice ao n c) := by simp [World.cell?, hx1]
  have hlx := lt_of_block hx1
  have hA2 : ∀ k, IntsAt (w2.drewN k) ao L := fun k => (HA.out.keep hK1 (by simp [Off])).keep (Keep.drewN [] w2 k) (by simp [Off])
  have hA3 : IntsAt w2.drew ao L := (HA.out.keep hK1 (by simp [Off])).keep (Keep.drew [] w2) (by simp [Off])
  go_region_held3 (fun wz => wz.cell? ⟨bx, 0, none⟩ = some (.int .i64 f) ∧ wz.cell? ⟨bx, 1, none⟩ = some (.slice ao n c)) (go_keep) (first | (refine step_append_nil rfl (.const (.slice none 0 0)) (.tmp 6) 25 rfl 3 i0 Tryz.underlying25 hI.out L rfl ao n c HN.out rfl hA3 HC.out hb ?_; intro la lc w3 HG hK3; have d1 := (hK3.cell hlx (by simp) 0).trans c0; have d2 := (hK3.cell hlx (by simp) 1).trans c1; have hx3 := hK3.blk hx2 (by simp); have e0 : w3.cell? ⟨bw, 0, none⟩ = some (.int .i64 0) := (by simp [World.cell?, hx3]); have e1 : w3.cell? ⟨bw, 1, none⟩ = some (.slice none 0 0) := (by simp [World.cell?, hx3]); have f0 : w3.frozen? ⟨bw, 0, none⟩ = false := (by simp [World.frozen?, hx3]); have f1 : w3.frozen? ⟨bw, 1, none⟩ = false := (by simp [World.frozen?, hx3]); have hk4 : Keep [bw] w3 ((w3.setCell ⟨bw, 0, none⟩ (.int .i64 f)).setCell ⟨bw, 1, none⟩ (.slice la n lc)) := (Keep.setCell _ _ (by simp)).trans (Keep.setCell _ _ (by simp)); have g0 := (hk4.cell (Nat.lt_of_lt_of_le hlx hK3.size) (by simpa using hne) 0).trans d1; have g1 := (hk4.cell (Nat.lt_of_lt_of_le hlx hK3.size) (by simpa using hne) 1).trans d2))
  have z1 := heap_setCell_same w3 bw 0 _ _ (.int .i64 f) hx3
  have z2 := heap_setCell_same _ bw 1 _ _ (.slice la n lc) z1
  have hlw := lt_of_block hx2
  have hsz := hK1.size
  go_wp2
  refine bodyPost_ret (results_cell_row rfl _ _ bw 76 #[.int .i64 f, .slice la n lc] (0, 0) _ rfl (by simpa using z2) Tryz.underlying76 rfl (by kernel_rfl)) rfl ?_
  refine ⟨_, rfl, HG.later hk4 (by simpa using hlw) (by simpa using hsz), ?_⟩
  exact (((hK1.mono (T := [bw]) (by simp)).trans ((Keep.drew [bw] w2).trans (hK3.mono (by simp)))).trans hk4).drop (by simp; omega)

/-- A class in memory. -/
structure CV where
  f : Int
  ao : Option Addr
  cp : Nat
  L : List Int
def CV.cells (c : CV) : List Value := [.int .i64 c.f, .slice c.ao c.L.length c.cp]
def flat (cs : List CV) : List Value := cs.flatMap CV.cells
theorem flat_length (cs : List CV) : (flat cs).length = cs.length * 2 := by
  induction cs with
  | nil => rfl
  | cons c cs ih => simp [flat, CV.cells] at *; omega
theorem flat_app (cs ds : List CV) : flat (cs ++ ds) = flat cs ++ flat ds := by simp [flat]
theorem flat_one (c : CV) : flat [c] = c.cells := by simp [flat]
theorem flat_get0 (cs : List CV) (i : Nat) (c : CV) (h : cs[i]? = some c) : (flat cs)[i * 2]? = some (.int .i64 c.f) ∧ (flat cs)[i * 2 + 1]? = some (.slice c.ao c.L.length c.cp) := by
  induction cs generalizing i with
  | nil => simp at h
  | cons d cs ih =>
    cases i with
    | zero => simp at h; subst h; simp [flat, CV.cells]
    | succ i =>
      simp at h
      have := ih i h
      have e : flat (d :: cs) = .int .i64 d.f :: .slice d.ao d.L.length d.cp :: flat cs := by simp [flat, CV.cells]
      rw [e, show (i + 1) * 2 = i * 2 + 1 + 1 by omega, show i * 2 + 1 + 1 + 1 = (i * 2 + 1) + 1 + 1 by omega]
      simpa using this
/-- What a class is, wherever it lies. -/
def CV.d (c : CV) : Int × List Int := (c.f, c.L)

/-- Block tb is a table whose classes lie at va; all its blocks are of F. -/
structure TabAt (w : World) (tb : Nat) (va : Option Addr) (vc : Nat) (F : List Nat) (cs : List CV) : Prop where
  head : w.heap[tb]? = some (.cells #[.slice va cs.length vc] 143 (0, 0))
  own : w.ownsRow 0 76 2 (.slice va cs.length vc) cs.length (flat cs)
  vF : ∀ a, va = some a → a.block ∈ F ∧ a.block ≠ tb
  tF : tb ∈ F
  each : ∀ (i : Nat) (c : CV), cs[i]? = some c → IntsAt w c.ao c.L ∧ (c.ao = none → c.cp = 0) ∧ c.L.length ≤ 1000000 ∧ (∀ a, c.ao = some a → a.block ∈ F ∧ a.block ≠ tb ∧ ∀ b, va = some b → b.block ≠ a.block)
  lt : ∀ k, k ∈ F → k < w.heap.size
def IsTab (w : World) (tb : Nat) (F : List Nat) (ds : List (Int × List Int)) : Prop := ∃ va vc cs, TabAt w tb va vc F cs ∧ ds = cs.map CV.d

theorem TabAt.keep {S F : List Nat} {w w' : World} {tb vc : Nat} {va : Option Addr} {cs : List CV} (h : TabAt w tb va vc F cs) (K : Keep S w w') (hS : ∀ k, k ∈ F → k ∉ S) : TabAt w' tb va vc F cs :=
  { h with
    head := K.blk h.head (hS _ h.tF)
    own := by
      refine ⟨h.own.1, ?_⟩
      rcases h.own.2 with h1 | ⟨g, cap, cur, h1, h2, h3, h4⟩
      · exact .inl h1
      · refine .inr ⟨g, cap, cur, h1, h2, K.blk h3 (hS _ ?_), h4⟩
        cases h1; exact (h.vF _ rfl).1
    each := fun i c hc => by
      obtain ⟨h1, h2, h3, h4⟩ := h.each i c hc
      exact ⟨h1.keep K (fun _ a e => hS _ (h4 a e).1), h2, h3, h4⟩
    lt := fun k hk => Nat.lt_of_lt_of_le (h.lt k hk) K.size }
theorem IsTab.keep {S F : List Nat} {w w' : World} {tb : Nat} {ds : List (Int × List Int)} (h : IsTab w tb F ds) (K : Keep S w w') (hS : ∀ k, k ∈ F → k ∉ S) : IsTab w' tb F ds := by
  obtain ⟨va, vc, cs, h, e⟩ := h; exact ⟨va, vc, cs, h.keep K hS, e⟩
theorem TabAt.cell {F : List Nat} {w : World} {tb vc : Nat} {va : Option Addr} {cs : List CV} (h : TabAt w tb va vc F cs) : w.cell? ⟨tb, 0, none⟩ = some (.slice va cs.length vc) := by simp [World.cell?, h.head]
theorem TabAt.free {F : List Nat} {w : World} {tb vc : Nat} {va : Option Addr} {cs : List CV} (h : TabAt w tb va vc F cs) : w.frozen? ⟨tb, 0, none⟩ = false := by simp [World.frozen?, h.head]

/-- One class more. -/
theorem TabAt.added {F : List Nat} {w w4 : World} {tb vc g cap B lc : Nat} {va la : Option Addr} {cs : List CV} {f : Int} {L : List Int} {o : Obj} (h : TabAt w tb va vc F cs) (hB : ∀ k, k ∈ F → k < B)
    (hI : IntsAt w la L) (hlc : la = none → lc = 0) (hL : L.length ≤ 1000000) (hla : ∀ a, la = some a → B ≤ a.block ∧ a.block < w.heap.size) (hBw : B ≤ w.heap.size)
    (hown : w4.ownsRow 0 76 2 (.slice (some ⟨g, 0, none⟩) (cs.length + 1) cap) (cs.length + 1) (flat cs ++ [.int .i64 f, .slice la L.length lc]))
    (hg : (w.alloc o).grownBy w4 (Value.slice va cs.length vc).ownBlock) (hat : (Value.slice va cs.length vc).ownBlock = some g ∨ g = w.heap.size + 1) (hlt : g < w4.heap.size) :
    TabAt (w4.setCell ⟨tb, 0, none⟩ (.slice (some ⟨g, 0, none⟩) (cs.length + 1) cap)) tb (some ⟨g, 0, none⟩) cap (g :: (la.toList.map (·.block) ++ F)) (cs ++ [⟨f, la, lc, L⟩]) ∧
      Keep F w (w4.setCell ⟨tb, 0, none⟩ (.slice (some ⟨g, 0, none⟩) (cs.length + 1) cap)) := by
  have htb := hB _ h.tF
  have own : ∀ k, (Value.slice va cs.length vc).ownBlock = some k → k ∈ F ∧ k ≠ tb ∧ ∃ a, va = some a ∧ a.block = k := by
    intro k hk
    cases va with
    | none => simp [Value.ownBlock] at hk
    | some a => simp [Value.ownBlock] at hk; subst hk; exact ⟨(h.vF a rfl).1, (h.vF a rfl).2, a, rfl, rfl⟩
  have gtb : g ≠ tb := by
    rcases hat with e | e
    · exact (own g e).2.1
    · omega
  have K1 : Keep F w w4 := ⟨hg.os, hg.tape, hg.output, Nat.le_trans (by simp) hg.size, fun k hk hS =>
    (hg.block k (by simp; omega) (fun e => hS (own k e.symm).1)).trans (Below.heap_alloc _ _ _ hk)⟩
  have K0 : Keep [] w (w.alloc o) := Keep.alloc [] w o
  have K2 : Keep [tb] w4 (w4.setCell ⟨tb, 0, none⟩ (.slice (some ⟨g, 0, none⟩) (cs.length + 1) cap)) := Keep.setCell _ _ (by simp)
  have ints : ∀ (ao : Option Addr) (M : List Int), IntsAt w ao M → (∀ a, ao = some a → a.block ≠ tb ∧ (Value.slice va cs.length vc).ownBlock ≠ some a.block) → IntsAt (w4.setCell ⟨tb, 0, none⟩ (.slice (some ⟨g, 0, none⟩) (cs.length + 1) cap)) ao M := by
    intro ao M hM ha
    refine ⟨fun h0 => ?_, hM.low, hM.high⟩
    obtain ⟨b, off, rfl, hb, hc⟩ := hM.cells h0
    obtain ⟨h1, h2⟩ := ha _ rfl
    have e : (w4.setCell ⟨tb, 0, none⟩ (.slice (some ⟨g, 0, none⟩) (cs.length + 1) cap)).heap[b]? = w.heap[b]? :=
      (K2.block b (Nat.lt_of_lt_of_le hb K1.size) (by simpa using h1)).trans ((hg.block b (by simp; omega) (fun e => h2 e.symm)).trans (Below.heap_alloc _ _ _ hb))
    exact ⟨b, off, rfl, Nat.lt_of_lt_of_le (Nat.lt_of_lt_of_le hb K1.size) K2.size, fun i hi => (World.cell?_of_block (w := w) e).trans (hc i hi)⟩
  have far : ∀ k, B ≤ k → (Value.slice va cs.length vc).ownBlock ≠ some k := fun k hk e => by have := hB _ (own k e).1; omega
  have hl : (cs ++ [(⟨f, la, lc, L⟩ : CV)]).length = cs.length + 1 := by simp
  have htbw : w4.heap[tb]? = some (.cells #[.slice va cs.length vc] 143 (0, 0)) := by
    rw [← h.head]
    exact (hg.block tb (by simp; omega) (fun e => (own tb e.symm).2.1 rfl)).trans (Below.heap_alloc _ _ _ (by omega))
  refine ⟨⟨?_, ?_, ?_, ?_, ?_, ?_⟩, K1.trans (K2.mono (by simpa using h.tF))⟩
  · rw [hl]
    have := heap_setCell_same w4 tb 0 _ _ (.slice (some ⟨g, 0, none⟩) (cs.length + 1) cap) htbw
    simpa using this
  · rw [hl, flat_app, flat_one]
    refine ⟨hown.1, ?_⟩
    rcases hown.2 with ⟨h1, _⟩ | ⟨g', cap', cur, h1, h2, h3, h4⟩
    · cases h1
    · cases h1
      exact .inr ⟨g, cap, cur, rfl, h2, K2.blk h3 (by simpa using gtb), h4⟩
  · intro a e; cases e; exact ⟨by simp, gtb⟩
  · simp [h.tF]
  · intro i c hc
    rcases Nat.lt_trichotomy i cs.length with hi | hi | hi
    · rw [List.getElem?_append_left hi] at hc
      obtain ⟨h1, h2, h3, h4⟩ := h.each i c hc
      have h5 : ∀ a, c.ao = some a → (Value.slice va cs.length vc).ownBlock ≠ some a.block := fun a e e' => by
        obtain ⟨b, e1, e2⟩ := (own _ e').2.2
        exact (h4 a e).2.2 b e1 e2
      refine ⟨ints _ _ h1 (fun a e => ⟨(h4 a e).2.1, h5 a e⟩), h2, h3, fun a e => ⟨by simp [(h4 a e).1], (h4 a e).2.1, fun b eb => ?_⟩⟩
      cases eb
      show g ≠ a.block
      rcases hat with e' | e'
      · intro eg; exact h5 a e (by rw [e', eg])
      · have := hB _ (h4 a e).1; omega
    · subst hi
      have : c = ⟨f, la, lc, L⟩ := by simpa using hc.symm
      subst this
      refine ⟨ints _ _ hI (fun a e => ⟨by have := (hla a e).1; omega, far _ (hla a e).1⟩), hlc, hL, fun a e => ⟨?_, by have := (hla a e).1; omega, fun b eb => ?_⟩⟩
      · have e' : la = some a := e
        simp [e']
      · cases eb
        show g ≠ a.block
        have := hla a e
        rcases hat with e' | e'
        · intro eg; exact far a.block this.1 (by rw [e', eg])
        · omega
    · rw [List.getElem?_eq_none (by simp; omega)] at hc; cases hc
  · intro k hk
    have hs := K2.size
    have hs1 := K1.size
    simp at hk
    rcases hk with rfl | ⟨a, e, rfl⟩ | hk
    · omega
    · have := (hla a e).2; omega
    · have := hB k hk; omega
theorem IsTab.lt {F : List Nat} {w : World} {tb : Nat} {ds : List (Int × List Int)} (h : IsTab w tb F ds) : ∀ k, k ∈ F → k < w.heap.size := by
  obtain ⟨va, vc, cs, h, e⟩ := h; exact h.lt
theorem IsTab.mem {F : List Nat} {w : World} {tb : Nat} {ds : List (Int × List Int)} (h : IsTab w tb F ds) : tb ∈ F := by
  obtain ⟨va, vc, cs, h, e⟩ := h; exact h.tF

/-! ### The calls -/
set_option maxHeartbeats 400000 in
theorem tnew (w : World) : Calls Tryz.prog 50 #[] w fun e w' => ∃ tb, e = .returned (.pointer (some ⟨tb, 0, none⟩)) ∧ IsTab w' tb [tb] [] ∧ Keep [] w w' ∧ w.heap.size ≤ tb := by
  go_enter Tryz.func50, Tryz.ntmps50
  go_wp2
  go_ret
  refine ⟨w.heap.size, rfl, ⟨none, 0, [], ⟨heap_alloc_new w _, World.ownsRow_nil _ _ _ _, (fun a e => by cases e), (by simp), (fun i c h => by simp at h), ?_⟩, rfl⟩, Keep.alloc [] _ _, Nat.le_refl _⟩
  intro k hk
  simp at hk
  simp [hk]
set_option maxHeartbeats 400000 in
theorem tclasses (tb : Nat) (F : List Nat) (ds : List (Int × List Int)) (w : World) (h : IsTab w tb F ds) :
    Calls Tryz.prog 102 #[.pointer (some ⟨tb, 0, none⟩)] w fun e w' => e = .returned (.int .i64 ds.length) ∧ w = w' := by
  obtain ⟨va, vc, cs, h, rfl⟩ := h
  rw [List.length_map]
  have hc := h.cell
  clear h
  go_enter Tryz.func102, Tryz.ntmps102
  go_wp2
  go_ret
  exact ⟨rfl, rfl⟩
set_option maxHeartbeats 400000 in
theorem tclasses_nil (w : World) :
    Calls Tryz.prog 102 #[.pointer none] w fun e w' => e = .returned (.int .i64 0) ∧ w = w' := by
  go_enter Tryz.func102, Tryz.ntmps102
  go_wp2
  go_ret
  exact ⟨rfl, rfl⟩

end Go.Proofs.YtgpidokklhjfdaaGreat

/-
  Class, Add and Of of package class.
-/
namespace Go.Proofs.YtgpidokklhjfdaaGreat
open Go.RowKit

set_option maxHeartbeats 800000 in
theorem tclass_no (tb : Nat) (F : List Nat) (ds : List (Int × List Int)) (id : Int) (w : World) (h : IsTab w tb F ds) (hid : id < 1 ∨ (ds.length : Int) < id) :
    Calls Tryz.prog 83 #[.pointer (some ⟨tb, 0, none⟩), .int .i64 id] w fun e w' => e = .returned (.tuple #[.agg #[.int .i64 0, .slice none 0 0], .int .i64 2]) ∧ Keep [] w w' := by
  have h1 := h.keep (Keep.alloc [] w (.cells #[.int .i64 0, .slice none 0 0] 76)) (by simp)
  have hx := heap_alloc_new w (.cells #[.int .i64 0, .slice none 0 0] 76)
  have hK := Keep.alloc [] w (.cells #[.int .i64 0, .slice none 0 0] 76)
  by_cases hlo : id < 1
  · clear h1 hid
    go_enter Tryz.func83, Tryz.ntmps83
    go_wp2
    refine bodyPost_ret (results_cell_tmp_row rfl _ _ w.heap.size 76 #[.int .i64 0, .slice none 0 0] (0, 0) _ rfl hx Tryz.underlying76 rfl (by kernel_rfl)) rfl ?_
    exact ⟨rfl, hK⟩
  · have hd : decide (id < 1) = false := by rw [decide_eq_false_iff_not]; omega
    have hg : (ds.length : Int) < id := by omega
    obtain ⟨n, hn⟩ : ∃ n, ds.length = n := ⟨_, rfl⟩
    have HN := (show Hid (ds.length = n) from hn)
    rw [hn] at hg
    clear hid hn
    go_enter Tryz.func83, Tryz.ntmps83
    go_wp2_with (first | (go_at_call 102; refine (tclasses tb F ds _ h1).mono ?_; rw [HN.out]; rintro e w' ⟨rfl, rfl⟩))
    refine bodyPost_ret (results_cell_tmp_row rfl _ _ w.heap.size 76 #[.int .i64 0, .slice none 0 0] (0, 0) _ rfl hx Tryz.underlying76 rfl (by kernel_rfl)) rfl ?_
    exact ⟨rfl, hK⟩
set_option maxHeartbeats 800000 in
theorem tclass_nil (id : Int) (w : World) :
    Calls Tryz.prog 83 #[.pointer none, .int .i64 id] w fun e w' => e = .returned (.tuple #[.agg #[.int .i64 0, .slice none 0 0], .int .i64 2]) ∧ Keep [] w w' := by
  have hx := heap_alloc_new w (.cells #[.int .i64 0, .slice none 0 0] 76)
  have hK := Keep.alloc [] w (.cells #[.int .i64 0, .slice none 0 0] 76)
  by_cases hlo : id < 1
  · go_enter Tryz.func83, Tryz.ntmps83
    go_wp2
    refine bodyPost_ret (results_cell_tmp_row rfl _ _ w.heap.size 76 #[.int .i64 0, .slice none 0 0] (0, 0) _ rfl hx Tryz.underlying76 rfl (by kernel_rfl)) rfl ?_
    exact ⟨rfl, hK⟩
  · have hd : decide (id < 1) = false := by rw [decide_eq_false_iff_not]; omega
    have hg : (0 : Int) < id := by omega
    go_enter Tryz.func83, Tryz.ntmps83
    go_wp2_with (first | (go_at_call 102; refine (tclasses_nil _).mono ?_; rintro e w' ⟨rfl, rfl⟩))
    refine bodyPost_ret (results_cell_tmp_row rfl _ _ w.heap.size 76 #[.int .i64 0, .slice none 0 0] (0, 0) _ rfl hx Tryz.underlying76 rfl (by kernel_rfl)) rfl ?_
    exact ⟨rfl, hK⟩

set_option maxHeartbeats 1600000 in
theorem tclass_yes (tb i : Nat) (F : List Nat) (ds : List (Int × List Int)) (f : Int) (L : List Int) (w : World) (h : IsTab w tb F ds) (hi : ds[i]? = some (f, L)) (hl : ds.length ≤ 1000000) :
    Calls Tryz.prog 83 #[.pointer (some ⟨tb, 0, none⟩), .int .i64 ((i : Int) + 1)] w fun e w' => ∃ v, e = .returned (.tuple #[.agg #[.int .i64 f, v], .int .i64 0]) ∧ GivesI w w' v L ∧ Keep [] w w' := by
  have h1 := h.keep (Keep.alloc [] w (.cells #[.int .i64 0, .slice none 0 0] 76)) (by simp)
  have hx := heap_alloc_new w (.cells #[.int .i64 0, .slice none 0 0] 76)
  have hK := Keep.alloc [] w (.cells #[.int .i64 0, .slice none 0 0] 76)
  obtain ⟨va, vc, cs, h2, e⟩ := h1
  obtain ⟨n, hn⟩ : ∃ n, cs.length = n := ⟨_, rfl⟩
  have hn2 : ds.length = n := by rw [e, List.length_map]; exact hn
  have HN := (show Hid (ds.length = n) from hn2)
  have hin : i < n := by
    rw [← hn2]
    rcases Nat.lt_or_ge i ds.length with h | h
    · exact h
    · rw [List.getElem?_eq_none h] at hi; cases hi
  obtain ⟨c, hc⟩ : ∃ c, cs[i]? = some c := ⟨cs[i], by simp [hn, hin]⟩
  have hd : c.d = (f, L) := by
    rw [e, List.getElem?_map, hc] at hi
    simpa using hi
  obtain ⟨cf, ca, cc, cL⟩ := c
  simp [CV.d] at hd
  obtain ⟨rfl, rfl⟩ := hd
  obtain ⟨hI, hcc, hcl, hcb⟩ := h2.each i _ hc
  obtain ⟨q0, q1⟩ := flat_get0 cs i _ hc
  have hlen : n ≤ 1000000 := by omega
  have hcell := h2.cell
  rw [hn] at hcell
  rcases h2.own.2 with ⟨_, h0⟩ | ⟨g, cap, cur, ev, _, hg, _, hcap, hsz, htake⟩
  · omega
  cases ev
  have hcu : ∀ j u, (flat cs)[j]? = some u → (w.alloc (.cells #[.int .i64 0, .slice none 0 0] 76)).cell? ⟨g, j, none⟩ = some u := by
    intro j u hu
    have hj : j < cs.length * 2 := by
      rcases Nat.lt_or_ge j (cs.length * 2) with h | h
      · exact h
      · rw [List.getElem?_eq_none (by rw [flat_length]; exact h)] at hu; cases hu
    rw [← htake, List.getElem?_take, if_pos hj] at hu
    have hu' : cur[j]? = some u := by simpa using hu
    simp [World.cell?, hg, hu']
  have x0 := hcu _ _ q0
  have x1 := hcu _ _ q1
  have HT := (show Hid (IsTab (w.alloc (.cells #[.int .i64 0, .slice none 0 0] 76)) tb F ds) from ⟨_, _, cs, h2, e⟩)
  have HI := (show Hid (IntsAt (w.alloc (.cells #[.int .i64 0, .slice none 0 0] 76)) ca cL) from hI)
  have HCC := (show Hid (ca = none → cc = 0) from hcc)
  have hd1 : decide ((i : Int) + 1 < 1) = false := by rw [decide_eq_false_iff_not]; omega
  have hd2 : decide ((n : Int) < (i : Int) + 1) = false := by rw [decide_eq_false_iff_not]; omega
  have hs1 : (i : Int) + 1 - 1 = i := by omega
  have hb0 : (0 : Int) ≤ (i : Int) := by omega
  have hb1 : (i : Int) < n := by omega
  obtain ⟨lL, hlL⟩ : ∃ lL, cL.length = lL := ⟨_, rfl⟩
  have HL := (show Hid (cL.length = lL) from hlL)
  have x1' : (w.alloc (.cells #[.int .i64 0, .slice none 0 0] 76)).cell? ⟨g, i * 2 + 1, none⟩ = some (.slice ca lL cc) := by rw [x1]; simp [hlL]
  rw [hlL] at hcl
  simp only at x0
  clear h h2 hI hcc hcb q0 q1 hg htake hcu hc hi e hn hn2 hl hlL x1 hsz hcap
  go_enter Tryz.func83, Tryz.ntmps83
  go_wp2_with (first | (go_at_call 102; refine (tclasses tb F ds _ HT.out).mono ?_; rw [HN.out]; rintro e w' ⟨rfl, rfl⟩) | (go_at_call 81; refine (copied_any cf ca lL cc cL _ HI.out HCC.out HL.out hcl).mono ?_; rintro e w3 ⟨v, rfl, HG, hK3⟩; obtain ⟨la, lc, rfl, hG1, hG2, hG3⟩ := HG; have hx3 := hK3.blk hx (by simp); have e0 : w3.cell? ⟨w.heap.size, 0, none⟩ = some (.int .i64 0) := (by simp [World.cell?, hx3]); have e1 : w3.cell? ⟨w.heap.size, 1, none⟩ = some (.slice none 0 0) := (by simp [World.cell?, hx3]); have f0 : w3.frozen? ⟨w.heap.size, 0, none⟩ = false := (by simp [World.frozen?, hx3]); have f1 : w3.frozen? ⟨w.heap.size, 1, none⟩ = false := (by simp [World.frozen?, hx3])))
  have z1 := heap_setCell_same w3 w.heap.size 0 _ _ (.int .i64 cf) hx3
  have z2 := heap_setCell_same _ w.heap.size 1 _ _ (.slice la cL.length lc) z1
  have hk4 : Keep [w.heap.size] w3 ((w3.setCell ⟨w.heap.size, 0, none⟩ (.int .i64 cf)).setCell ⟨w.heap.size, 1, none⟩ (.slice la cL.length lc)) := (Keep.setCell _ _ (by simp)).trans (Keep.setCell _ _ (by simp))
  have HG : GivesI (w.alloc (.cells #[.int .i64 0, .slice none 0 0] 76)) w3 (.slice la cL.length lc) cL := ⟨la, lc, rfl, hG1, hG2, hG3⟩
  refine bodyPost_ret (results_cell_tmp_row rfl _ _ w.heap.size 76 #[.int .i64 cf, .slice la cL.length lc] (0, 0) _ rfl (by simpa using z2) Tryz.underlying76 rfl (by kernel_rfl)) rfl ?_
  exact ⟨_, rfl, HG.later hk4 (by simp) (by simp), (((hK.mono (T := [w.heap.size]) (by simp)).trans (hK3.mono (by simp))).trans hk4).drop (by simp)⟩

/-- The same, of a number that is given as one. -/
theorem tclass_at (tb i : Nat) (F : List Nat) (ds : List (Int × List Int)) (f id : Int) (L : List Int) (w : World) (h : IsTab w tb F ds) (hi : ds[i]? = some (f, L)) (hl : ds.length ≤ 1000000) (hid : id = (i : Int) + 1) :
    Calls Tryz.prog 83 #[.pointer (some ⟨tb, 0, none⟩), .int .i64 id] w fun e w' => ∃ la lc, e = .returned (.tuple #[.agg #[.int .i64 f, .slice la L.length lc], .int .i64 0]) ∧ GivesI w w' (.slice la L.length lc) L ∧ Keep [] w w' := by
  subst hid
  refine (tclass_yes tb i F ds f L w h hi hl).mono ?_
  rintro e w' ⟨v, rfl, HG, hK⟩
  obtain ⟨la, lc, rfl, h1, h2, h3⟩ := HG
  exact ⟨la, lc, rfl, ⟨la, lc, rfl, h1, h2, h3⟩, hK⟩

set_option maxHeartbeats 800000 in
theorem tadd_nil (v : Value) (f : Int) (ao : Option Addr) (n c : Nat) (w : World) (hv : v = .agg #[.int .i64 f, .slice ao n c]) :
    Calls Tryz.prog 51 #[.pointer none, v] w fun e w' => e = .returned (.tuple #[.int .i64 0, .int .i64 2]) ∧ Keep [] w w' := by
  subst hv
  have hK := Keep.alloc [] w (.cells #[.int .i64 f, .slice ao n c] 76)
  go_enter Tryz.func51, Tryz.ntmps51
  go_wp2
  go_ret2
  exact ⟨rfl, hK⟩
set_option maxRecDepth 100000 in
set_option maxHeartbeats 800000 in
theorem tadd_arg (tb : Nat) (f : Int) (ao : Option Addr) (n c : Nat) (L : List Int) (w : World) (hA : IntsAt w ao L) (hn : L.length = n) (hb : n ≤ 1000000) (hm : mayB f L = false) :
    Calls Tryz.prog 51 #[.pointer (some ⟨tb, 0, none⟩), .agg #[.int .i64 f, .slice ao n c]] w fun e w' => e = .returned (.tuple #[.int .i64 0, .int .i64 1]) ∧ Keep [] w w' := by
  have hK := Keep.alloc [] w (.cells #[.int .i64 f, .slice ao n c] 76)
  have hx := heap_alloc_new w (.cells #[.int .i64 f, .slice ao n c] 76)
  have HA := (show Hid (IntsAt (w.alloc (.cells #[.int .i64 f, .slice ao n c] 76)) ao L) from hA.keep hK (by simp [Off]))
  have HN := (show Hid (L.length = n) from hn)
  have HM := (show Hid (mayB f L = false) from hm)
  clear hA hn hm
  go_enter Tryz.func51, Tryz.ntmps51
  go_wp2_with (first | (go_at_call 80; refine (may_any f ao n c L _ HA.out HN.out (by omega)).mono ?_; rw [HM.out]; rintro e w1 ⟨rfl, hK1⟩))
  go_ret2
  exact ⟨rfl, hK.trans hK1⟩
set_option maxRecDepth 100000 in
set_option maxHeartbeats 800000 in
theorem tadd_full (tb : Nat) (F : List Nat) (ds : List (Int × List Int)) (f : Int) (ao : Option Addr) (n c : Nat) (L : List Int) (w : World) (h : IsTab w tb F ds) (hA : IntsAt w ao L) (hn : L.length = n) (hb : n ≤ 1000000) (hm : mayB f L = true) (hf : 256 ≤ ds.length) :
    Calls Tryz.prog 51 #[.pointer (some ⟨tb, 0, none⟩), .agg #[.int .i64 f, .slice ao n c]] w fun e w' => e = .returned (.tuple #[.int .i64 0, .int .i64 3]) ∧ Keep [] w w' := by
  have hK := Keep.alloc [] w (.cells #[.int .i64 f, .slice ao n c] 76)
  have hx := heap_alloc_new w (.cells #[.int .i64 f, .slice ao n c] 76)
  have HA := (show Hid (IntsAt (w.alloc (.cells #[.int .i64 f, .slice ao n c] 76)) ao L) from hA.keep hK (by simp [Off]))
  have HN := (show Hid (L.length = n) from hn)
  have HM := (show Hid (mayB f L = true) from hm)
  have HT := (show Hid (IsTab (w.alloc (.cells #[.int .i64 f, .slice ao n c] 76)) tb F ds) from h.keep hK (by simp))
  clear hA hn hm h
  go_enter Tryz.func51, Tryz.ntmps51
  go_wp2_with (first | (go_at_call 80; refine (may_any f ao n c L _ HA.out HN.out (by omega)).mono ?_; rw [HM.out]; rintro e w1 ⟨rfl, hK1⟩; obtain ⟨va, vc, cs, h1, e1⟩ := HT.out.keep hK1 (by simp); have hcell := h1.cell; have hlen : cs.length = ds.length := (by rw [e1, List.length_map]); rw [hlen] at hcell; generalize ds.length = dl at hcell hf; clear h1 e1 hlen))
  go_ret2
  exact ⟨rfl, hK.trans hK1⟩
theorem TabAt.far4 {F : List Nat} {w w4 : World} {tb vc : Nat} {va : Option Addr} {cs : List CV} {o : Obj} (h : TabAt w tb va vc F cs) (hg : (w.alloc o).grownBy w4 (Value.slice va cs.length vc).ownBlock) :
    w4.cell? ⟨tb, 0, none⟩ = some (.slice va cs.length vc) ∧ w4.frozen? ⟨tb, 0, none⟩ = false := by
  have htb := h.lt _ h.tF
  have e : w4.heap[tb]? = some (.cells #[.slice va cs.length vc] 143 (0, 0)) := by
    rw [← h.head]
    refine (hg.block tb (by simp; omega) (fun e => ?_)).trans (Below.heap_alloc _ _ _ htb)
    cases va with
    | none => simp [Value.ownBlock] at e
    | some a => simp [Value.ownBlock] at e; exact (h.vF a rfl).2 e.symm
  exact ⟨by simp [World.cell?, e], by simp [World.frozen?, e]⟩
theorem oneCells (f : Int) (la : Option Addr) (n lc : Nat) : ∀ u ∈ [Value.int .i64 f, .slice la n lc], u.oneCell' = true := by
  intro u hu
  simp at hu
  rcases hu with rfl | rfl <;> rfl

set_option maxRecDepth 100000 in
set_option maxHeartbeats 3200000 in
theorem tadd_yes (tb : Nat) (F : List Nat) (ds : List (Int × List Int)) (f : Int) (ao : Option Addr) (n c : Nat) (L : List Int) (w : World) (h : IsTab w tb F ds) (hA : IntsAt w ao L) (hc : ao = none → c = 0) (hn : L.length = n) (hb : n ≤ 1000000) (hm : mayB f L = true) (hf : ds.length < 256) :
    Calls Tryz.prog 51 #[.pointer (some ⟨tb, 0, none⟩), .agg #[.int .i64 f, .slice ao n c]] w fun e w' => e = .returned (.tuple #[.int .i64 ((ds.length : Int) + 1), .int .i64 0]) ∧ (∃ F', IsTab w' tb F' (ds ++ [(f, L)]) ∧ ∀ k, k ∈ F' → k ∈ F ∨ w.heap.size ≤ k) ∧ Keep F w w' := by
  obtain ⟨i0, hi, hz0, hz1, hz2⟩ := info_parts Tryz.infoClass
  have hI : Hid (Tryz.prog.info? 76 = some i0 ∧ i0.zero = some (.agg #[.int .i64 0, .slice none 0 0]) ∧ i0.size = 2 ∧ i0.bytes = 32) := ⟨hi, hz0, hz1, hz2⟩
  clear hi hz0 hz1 hz2
  have hK := Keep.alloc [] w (.cells #[.int .i64 f, .slice ao n c] 76)
  have hx := heap_alloc_new w (.cells #[.int .i64 f, .slice ao n c] 76)
  have HA := (show Hid (IntsAt (w.alloc (.cells #[.int .i64 f, .slice ao n c] 76)) ao L) from hA.keep hK (by simp [Off]))
  have HN := (show Hid (L.length = n) from hn)
  have HC := (show Hid (ao = none → c = 0) from hc)
  have HM := (show Hid (mayB f L = true) from hm)
  have HT := (show Hid (IsTab (w.alloc (.cells #[.int .i64 f, .slice ao n c] 76)) tb F ds) from h.keep hK (by simp))
  have hB := h.lt
  have HB := (show Hid (∀ k, k ∈ F → k < w.heap.size) from hB)
  clear hA hn hm h hc hB
  go_enter Tryz.func51, Tryz.ntmps51
  go_wp2_with (first | (go_at_call 80; refine (may_any f ao n c L _ HA.out HN.out (by omega)).mono ?_; rw [HM.out]; rintro e w1 ⟨rfl, hK1⟩; obtain ⟨va, vc, cs, h1, e1⟩ := HT.out.keep hK1 (by simp); have hcell := h1.cell; have hlen : cs.length = ds.length := (by rw [e1, List.length_map]); have HLN := (show Hid (cs.length = ds.length) from hlen); rw [hlen] at hcell; have HTA := (show Hid (TabAt w1 tb va vc F cs) from h1); have HE := (show Hid (ds = cs.map CV.d) from e1); clear h1 e1 hlen))
  have hx1 := hK1.blk hx (by simp)
  have hbx : w.heap.size < w1.heap.size := lt_of_block hx1
  have hKw := hK.trans hK1
  have hIA := HA.out.keep hK1 (by simp [Off])
  have HA1 := (show Hid (IntsAt w1.drew ao L) from hIA.keep (Keep.drew [] w1) (by simp [Off]))
  have HT1 := (show Hid (TabAt w1.drew tb va vc F cs) from HTA.out.keep (Keep.drew [] w1) (by simp))
  have hKd : Keep [] w w1.drew := hKw.trans (Keep.drew [] w1)
  clear hx hK hK1 HA HT hKw hIA
  have hx2 : w1.drew.heap[w.heap.size]? = some (.cells #[.int .i64 f, .slice ao n c] 76 (0, 0)) := hx1
  obtain ⟨bx, hbq⟩ : ∃ bx, w.heap.size = bx := ⟨_, rfl⟩
  rw [hbq] at hx1 hx2 ⊢
  have c0 : w1.cell? ⟨bx, 0, none⟩ = some (.int .i64 f) := by simp [World.cell?, hx1]
  have c1 : w1.cell? ⟨bx, 1, none⟩ = some (.slice ao n c) := by simp [World.cell?, hx1]
  obtain ⟨dl, hdl⟩ : ∃ dl, ds.length = dl := ⟨_, rfl⟩
  rw [hdl] at hf hcell ⊢
  have HDL := (show Hid (cs.length = dl) from by show _ = _; rw [HLN.out]; exact hdl)
  have HB3 := (show Hid (∀ k, k ∈ F → k < w1.drew.heap.size) from fun k hk => Nat.lt_of_lt_of_le (HB.out k hk) hKd.size)
  have HGW0 := (show Hid (∀ w3, Keep [] w1.drew w3 → ∀ g, (Value.slice va dl vc).ownBlock = some g ∨ g = w3.heap.size + 1 → g ∈ F ∨ w.heap.size ≤ g) from by
    intro w3 hK3 g hg
    rcases hg with e | e
    · left
      cases va with
      | none => simp [Value.ownBlock] at e
      | some a => simp [Value.ownBlock] at e; rw [← e]; exact (HT1.out.vF a rfl).1
    · right
      have := hK3.size
      have := hKd.size
      omega)
  clear hx1
  go_region_law (first | (refine step_append_lies _ rfl (.tmp 21) (.tmp 24) 88 rfl 0 76 i0 (.agg #[.int .i64 0, .slice none 0 0]) 2 32 Tryz.underlying88 hI.out.1 hI.out.2.1 hI.out.2.2.1 hI.out.2.2.2 rfl (by decide) (.slice va dl vc) dl (flat cs) rfl HO3.out ⟨w3.heap.size, 0, none⟩ 1 1 [.int .i64 f, .slice la n lc] rfl rfl (World.news_of_block (heap_alloc_new w3 _)) (oneCells f la n lc) (by omega) (by unfold maxLen; omega) (by omega) (by omega) (w3.heap.size + 1) (by simp) ?_; intro g cap w4 hown hgrow hat hlt; have HADD := (show Hid (TabAt (w4.setCell ⟨tb, 0, none⟩ (.slice (some ⟨g, 0, none⟩) (cs.length + 1) cap)) tb (some ⟨g, 0, none⟩) cap (g :: (la.toList.map (·.block) ++ F)) (cs ++ [⟨f, la, lc, L⟩]) ∧ Keep F w3 (w4.setCell ⟨tb, 0, none⟩ (.slice (some ⟨g, 0, none⟩) (cs.length + 1) cap))) from TabAt.added (B := w1.drew.heap.size) HT3.out HB3.out HG.out.1 HG.out.2.1 HG.out.2.2.1 HG.out.2.2.2.1 HG.out.2.2.2.2 (by rw [HDL.out, HN.out]; exact hown) (by rw [HDL.out]; exact hgrow) (by rw [HDL.out]; exact hat) hlt); have HGB := (show Hid (g ∈ F ∨ w.heap.size ≤ g) from HGW.out g hat); obtain ⟨hcell4, hfree4⟩ := HT3.out.far4 (by rw [HDL.out]; exact hgrow); rw [HDL.out] at hcell4; clear hown hgrow hat hlt) | (go_simp; refine (copied_any f ao n c L _ HA1.out HC.out HN.out hb).mono ?_; rintro e w3 ⟨v, rfl, hG, hK3⟩; obtain ⟨la, lc, rfl, hG1, hG2, hG3⟩ := hG; rw [HN.out]; have hT3 := HT1.out.keep hK3 (by simp); have hcell3 := hT3.cell; rw [HDL.out] at hcell3; have hx3 := hK3.blk hx2 (by simp); have d0 : w3.cell? ⟨bx, 0, none⟩ = some (.int .i64 f) := (by simp [World.cell?, hx3]); have d1 : w3.cell? ⟨bx, 1, none⟩ = some (.slice ao n c) := (by simp [World.cell?, hx3]); have hcell3a : (w3.alloc (.cells #[.int .i64 f, .slice la n lc] 76)).cell? ⟨tb, 0, none⟩ = some (.slice va dl vc) := ((Keep.alloc [] w3 _).cell (hT3.lt _ hT3.tF) (by simp) 0).trans hcell3; have HT3 := (show Hid (TabAt w3 tb va vc F cs) from hT3); have HO3 := (show Hid ((w3.alloc (.cells #[.int .i64 f, .slice la n lc] 76)).ownsRow 0 76 2 (.slice va dl vc) dl (flat cs)) from (by have := hT3.own.alloc (.cells #[.int .i64 f, .slice la n lc] 76); rw [HDL.out] at this; exact this)); have HG := (show Hid (IntsAt w3 la L ∧ (la = none → lc = 0) ∧ L.length ≤ 1000000 ∧ (∀ a, la = some a → w1.drew.heap.size ≤ a.block ∧ a.block < w3.heap.size) ∧ w1.drew.heap.size ≤ w3.heap.size) from ⟨hG1, hG2, (by rw [HN.out]; exact hb), (fun a e => ⟨(hG3 a e).1, (hG3 a e).2.1⟩), hK3.size⟩); have HGW := (show Hid (∀ g, (Value.slice va dl vc).ownBlock = some g ∨ g = w3.heap.size + 1 → g ∈ F ∨ w.heap.size ≤ g) from (HGW0.out w3 hK3)); clear hT3 hG1 hG2 hG3))
  all_goals (go_wp2_with fail)
  all_goals
    obtain ⟨hA1, hA2⟩ := HADD.out
    rw [HDL.out] at hA1 hA2
    go_ret2
    refine ⟨by rw [hdl]; rfl, ⟨_, ⟨_, _, _, hA1, by rw [HE.out]; simp [CV.d]⟩, ?_⟩, ((hKd.mono (by simp)).trans (hK3.mono (by simp))).trans hA2⟩
    intro k hk
    simp at hk
    rcases hk with rfl | ⟨a, e, rfl⟩ | hk
    · exact HGB.out
    · right
      have h1 := (HG.out.2.2.2.1 a e).1
      have h2 := hKd.size
      omega
    · exact .inl hk

/-- Add, whatever it is given. -/
def addN (ds : List (Int × List Int)) (f : Int) (L : List Int) : Int := if mayB f L && decide (ds.length < 256) then (ds.length : Int) + 1 else 0
def addE (ds : List (Int × List Int)) (f : Int) (L : List Int) : Int := if mayB f L then (if ds.length < 256 then 0 else 3) else 1
def addR (ds : List (Int × List Int)) (f : Int) (L : List Int) : List (Int × List Int) := if mayB f L && decide (ds.length < 256) then ds ++ [(f, L)] else ds
theorem tadd_any (tb : Nat) (F : List Nat) (ds : List (Int × List Int)) (f : Int) (ao : Option Addr) (n c : Nat) (L : List Int) (w : World) (h : IsTab w tb F ds) (hA : IntsAt w ao L) (hc : ao = none → c = 0) (hn : L.length = n) (hb : n ≤ 1000000) :
    Calls Tryz.prog 51 #[.pointer (some ⟨tb, 0, none⟩), .agg #[.int .i64 f, .slice ao n c]] w fun e w' => e = .returned (.tuple #[.int .i64 (addN ds f L), .int .i64 (addE ds f L)]) ∧ (∃ F', IsTab w' tb F' (addR ds f L) ∧ ∀ k, k ∈ F' → k ∈ F ∨ w.heap.size ≤ k) ∧ Keep F w w' := by
  unfold addN addE addR
  cases hm : mayB f L with
  | false =>
    refine (tadd_arg tb f ao n c L w hA hn hb hm).mono ?_
    rintro e w' ⟨rfl, hK⟩
    exact ⟨by simp, ⟨F, by simpa using h.keep hK (by simp), fun k hk => .inl hk⟩, hK.mono (by simp)⟩
  | true =>
    by_cases hf : ds.length < 256
    · refine (tadd_yes tb F ds f ao n c L w h hA hc hn hb hm hf).mono ?_
      rintro e w' ⟨rfl, hT, hK⟩
      refine ⟨by simp [hf], by simpa [hf] using hT, hK⟩
    · refine (tadd_full tb F ds f ao n c L w h hA hn hb hm (by omega)).mono ?_
      rintro e w' ⟨rfl, hK⟩
      exact ⟨by simp [hf], ⟨F, by simpa [hf] using h.keep hK (by simp), fun k hk => .inl hk⟩, hK.mono (by simp)⟩

set_option maxRecDepth 100000 in
set_option maxHeartbeats 800000 in
theorem tof_any (tb : Nat) (F : List Nat) (ds : List (Int × List Int)) (f : Int) (ao : Option Addr) (n c : Nat) (L : List Int) (w : World) (h : IsTab w tb F ds) (hA : IntsAt w ao L) (hc : ao = none → c = 0) (hn : L.length = n) (hb : n ≤ 1000000) :
    Calls Tryz.prog 23 #[.pointer (some ⟨tb, 0, none⟩), .int .i64 f, .slice ao n c] w fun e w' => e = .returned (.tuple #[.int .i64 (addN ds f L), .int .i64 (addE ds f L)]) ∧ (∃ F', IsTab w' tb F' (addR ds f L) ∧ ∀ k, k ∈ F' → k ∈ F ∨ w.heap.size ≤ k) ∧ Keep F w w' := by
  have HC := (show Hid (ao = none → c = 0) from hc)
  have HT := (show Hid (IsTab w tb F ds) from h)
  have HA := (show Hid (IntsAt w ao L) from hA)
  have HN := (show Hid (L.length = n) from hn)
  obtain ⟨aN, hN⟩ : ∃ aN, addN ds f L = aN := ⟨_, rfl⟩
  obtain ⟨aE, hE⟩ : ∃ aE, addE ds f L = aE := ⟨_, rfl⟩
  have HAN := (show Hid (addN ds f L = aN) from hN)
  have HAE := (show Hid (addE ds f L = aE) from hE)
  rw [hN, hE]
  clear hN hE h hA hc hn
  go_enter Tryz.func23, Tryz.ntmps23
  go_wp2_with (first | (go_at_call 51; refine (tadd_any tb F ds f ao n c L _ HT.out HA.out HC.out HN.out hb).mono ?_; rw [HAN.out, HAE.out]; rintro e w1 ⟨rfl, HF, hK⟩))
  go_ret2
  exact ⟨rfl, HF, hK⟩

end Go.Proofs.YtgpidokklhjfdaaGreat

/-
  The document's own space in memory: its block, its words, what its pages are, and what one write leaves of it.
-/
namespace Go.Proofs.YtgpidokklhjfdaaGreat
open Go.RowKit

def PK.kind : PK → Int
  | .zero => -1
  | .free => 0
  | .small c _ => (c : Int) + 1
  | .part 0 _ => 6
  | .part _ _ => 7
def kindL (kd : List PK) : List Int := kd.map PK.kind
theorem kindL_length (kd : List PK) : (kindL kd).length = kd.length := by simp [kindL]
theorem kindL_get (kd : List PK) (p : Nat) : (kindL kd)[p]?.getD 0 = (kat kd p).kind := by
  unfold kindL kat
  rcases Nat.lt_or_ge p kd.length with h | h
  · simp [h]
  · rw [List.getElem?_eq_none (by simpa using h), List.getElem?_eq_none h]; rfl
/-- Where its blocks lie; r tells them apart. -/
structure RLay where
  gw : Nat
  gk : Nat
  gm : Nat
  gt : Nat
  T : Nat → Nat
  r : Nat → Nat
def PK.slot (q : Nat) : PK → Value
  | .small _ xs => .slice (some ⟨q, 0, none⟩) xs.length xs.length
  | _ => .slice none 0 0
def slots (L : RLay) (kd : List PK) : List Value := kd.mapIdx (fun p x => x.slot (L.T p))
theorem slots_length (L : RLay) (kd : List PK) : (slots L kd).length = kd.length := by simp [slots]
theorem slots_get (L : RLay) (kd : List PK) (p : Nat) (h : p < kd.length) : (slots L kd)[p]? = some ((kat kd p).slot (L.T p)) := by
  unfold slots; rw [List.getElem?_mapIdx, kat_get kd p h]; rfl
theorem ne_role {r : Nat → Nat} {a b m n : Nat} (h1 : r a = m) (h2 : r b = n) (h : m ≠ n) : a ≠ b := fun e => h (by rw [← h1, ← h2, e])

/-- Block mb is the document's space laid out as L, all of whose blocks are of F: its words, its kinds, its larger blocks, and of kd the blocks of its pages of a class. -/
structure RpAt (w : World) (mb : Nat) (L : RLay) (F : List Nat) (ws ks ms : List Int) (kd : List PK) : Prop where
  head : w.heap[mb]? = some (.cells #[.slice (some ⟨L.gw, 0, none⟩) (64 * kd.length) (64 * kd.length), .slice (some ⟨L.gk, 0, none⟩) kd.length kd.length, .slice (some ⟨L.gm, 0, none⟩) kd.length kd.length, .slice (some ⟨L.gt, 0, none⟩) kd.length kd.length] 86 (0, 0))
  rowW : Row w 3 L.gw ws
  rowK : Row w 3 L.gk ks
  rowM : Row w 3 L.gm ms
  rowT : w.heap[L.gt]? = some (.cells (slots L kd).toArray 137 (0, 0))
  page : ∀ p c xs, kat kd p = .small c xs → BRow w 4 (L.T p) xs
  lw : ws.length = 64 * kd.length
  lk : ks.length = kd.length
  lm : ms.length = kd.length
  r0 : L.r mb = 0
  r1 : L.r L.gw = 1
  r2 : L.r L.gk = 2
  r3 : L.r L.gm = 3
  r4 : L.r L.gt = 4
  rp : ∀ p c xs, kat kd p = .small c xs → L.r (L.T p) = 5 + p
  f : mb ∈ F ∧ L.gw ∈ F ∧ L.gk ∈ F ∧ L.gm ∈ F ∧ L.gt ∈ F
  fp : ∀ p c xs, kat kd p = .small c xs → L.T p ∈ F
  lt : ∀ k, k ∈ F → k < w.heap.size

theorem ltKeep {S F : List Nat} {w w' : World} (h : ∀ k, k ∈ F → k < w.heap.size) (K : Keep S w w') : ∀ k, k ∈ F → k < w'.heap.size := fun k hk => Nat.lt_of_lt_of_le (h k hk) K.size

section
variable {S F : List Nat} {w w' : World} {mb : Nat} {L : RLay} {ws ks ms : List Int} {kd : List PK}

theorem RpAt.keep (h : RpAt w mb L F ws ks ms kd) (K : Keep S w w') (hS : ∀ k, k ∈ F → k ∉ S) : RpAt w' mb L F ws ks ms kd := by
  obtain ⟨f0, f1, f2, f3, f4⟩ := h.f
  exact { h with
    head := K.blk h.head (hS _ f0), rowW := h.rowW.keep K (hS _ f1), rowK := h.rowK.keep K (hS _ f2), rowM := h.rowM.keep K (hS _ f3), rowT := K.blk h.rowT (hS _ f4),
    page := fun p c xs e => (h.page p c xs e).keep K (hS _ (h.fp p c xs e)), lt := ltKeep h.lt K }
theorem RpAt.keep0 (h : RpAt w mb L F ws ks ms kd) (K : Keep [] w w') : RpAt w' mb L F ws ks ms kd := h.keep K (by simp)
theorem RpAt.c0 (h : RpAt w mb L F ws ks ms kd) : w.cell? ⟨mb, 0, none⟩ = some (.slice (some ⟨L.gw, 0, none⟩) (64 * kd.length) (64 * kd.length)) := by simp [World.cell?, h.head]
theorem RpAt.c1 (h : RpAt w mb L F ws ks ms kd) : w.cell? ⟨mb, 1, none⟩ = some (.slice (some ⟨L.gk, 0, none⟩) kd.length kd.length) := by simp [World.cell?, h.head]
theorem RpAt.c2 (h : RpAt w mb L F ws ks ms kd) : w.cell? ⟨mb, 2, none⟩ = some (.slice (some ⟨L.gm, 0, none⟩) kd.length kd.length) := by simp [World.cell?, h.head]
theorem RpAt.c3 (h : RpAt w mb L F ws ks ms kd) : w.cell? ⟨mb, 3, none⟩ = some (.slice (some ⟨L.gt, 0, none⟩) kd.length kd.length) := by simp [World.cell?, h.head]
theorem RpAt.cw (h : RpAt w mb L F ws ks ms kd) {p : Nat} (hp : p < 64 * kd.length) : w.cell? ⟨L.gw, p, none⟩ = some (.int .i64 (ws[p]?.getD 0)) := h.rowW.cell (by rw [h.lw]; exact hp)
theorem RpAt.ck (h : RpAt w mb L F ws ks ms kd) {p : Nat} (hp : p < kd.length) : w.cell? ⟨L.gk, p, none⟩ = some (.int .i64 (ks[p]?.getD 0)) := h.rowK.cell (by rw [h.lk]; exact hp)
theorem RpAt.cm (h : RpAt w mb L F ws ks ms kd) {p : Nat} (hp : p < kd.length) : w.cell? ⟨L.gm, p, none⟩ = some (.int .i64 (ms[p]?.getD 0)) := h.rowM.cell (by rw [h.lm]; exact hp)
theorem RpAt.ct (h : RpAt w mb L F ws ks ms kd) {p : Nat} (hp : p < kd.length) : w.cell? ⟨L.gt, p, none⟩ = some ((kat kd p).slot (L.T p)) := by
  have := slots_get L kd p hp
  simp [World.cell?, h.rowT, this]
theorem RpAt.ft (h : RpAt w mb L F ws ks ms kd) (p : Nat) : w.frozen? ⟨L.gt, p, none⟩ = false := by simp [World.frozen?, h.rowT]

/-- A word, a kind, a number of pages is written. -/
theorem RpAt.setW (h : RpAt w mb L F ws ks ms kd) (i : Nat) (x : Int) : RpAt (w.setCell ⟨L.gw, i, none⟩ (.int .i64 x)) mb L F (ws.set i x) ks ms kd := by
  have K : Keep [L.gw] w (w.setCell ⟨L.gw, i, none⟩ (.int .i64 x)) := Keep.setCell w _ (by simp)
  have n : ∀ {y m : Nat}, L.r y = m → m ≠ 1 → y ∉ [L.gw] := fun h1 h2 => by simpa using ne_role h1 h.r1 h2
  exact { h with
    head := K.blk h.head (n h.r0 (by omega)), rowW := h.rowW.put i x, rowK := h.rowK.keep K (n h.r2 (by omega)), rowM := h.rowM.keep K (n h.r3 (by omega)), rowT := K.blk h.rowT (n h.r4 (by omega)),
    page := fun p c xs e => (h.page p c xs e).keep K (n (h.rp p c xs e) (by omega)), lw := by simpa using h.lw, lt := ltKeep h.lt K }
theorem RpAt.setK (h : RpAt w mb L F ws ks ms kd) (i : Nat) (x : Int) : RpAt (w.setCell ⟨L.gk, i, none⟩ (.int .i64 x)) mb L F ws (ks.set i x) ms kd := by
  have K : Keep [L.gk] w (w.setCell ⟨L.gk, i, none⟩ (.int .i64 x)) := Keep.setCell w _ (by simp)
  have n : ∀ {y m : Nat}, L.r y = m → m ≠ 2 → y ∉ [L.gk] := fun h1 h2 => by simpa using ne_role h1 h.r2 h2
  exact { h with
    head := K.blk h.head (n h.r0 (by omega)), rowW := h.rowW.keep K (n h.r1 (by omega)), rowK := h.rowK.put i x, rowM := h.rowM.keep K (n h.r3 (by omega)), rowT := K.blk h.rowT (n h.r4 (by omega)),
    page := fun p c xs e => (h.page p c xs e).keep K (n (h.rp p c xs e) (by omega)), lk := by simpa using h.lk, lt := ltKeep h.lt K }
theorem RpAt.setM (h : RpAt w mb L F ws ks ms kd) (i : Nat) (x : Int) : RpAt (w.setCell ⟨L.gm, i, none⟩ (.int .i64 x)) mb L F ws ks (ms.set i x) kd := by
  have K : Keep [L.gm] w (w.setCell ⟨L.gm, i, none⟩ (.int .i64 x)) := Keep.setCell w _ (by simp)
  have n : ∀ {y m : Nat}, L.r y = m → m ≠ 3 → y ∉ [L.gm] := fun h1 h2 => by simpa using ne_role h1 h.r3 h2
  exact { h with
    head := K.blk h.head (n h.r0 (by omega)), rowW := h.rowW.keep K (n h.r1 (by omega)), rowK := h.rowK.keep K (n h.r2 (by omega)), rowM := h.rowM.put i x, rowT := K.blk h.rowT (n h.r4 (by omega)),
    page := fun p c xs e => (h.page p c xs e).keep K (n (h.rp p c xs e) (by omega)), lm := by simpa using h.lm, lt := ltKeep h.lt K }
theorem slots_same (L : RLay) (kd kd' : List PK) (hl : kd'.length = kd.length) (h : ∀ p, p < kd.length → (kat kd' p).slot (L.T p) = (kat kd p).slot (L.T p)) : slots L kd' = slots L kd := by
  apply List.ext_getElem?
  intro p
  rcases Nat.lt_or_ge p kd.length with hp | hp
  · rw [slots_get L kd p hp, slots_get L kd' p (by omega), h p hp]
  · rw [List.getElem?_eq_none (by rw [slots_length]; omega), List.getElem?_eq_none (by rw [slots_length]; omega)]
/-- What pages of no class are told for is turned: no memory is. -/
theorem RpAt.other {kd' : List PK} (h : RpAt w mb L F ws ks ms kd) (hl : kd'.length = kd.length) (hs : ∀ q, kat kd' q = kat kd q ∨ (∀ c xs, kat kd' q ≠ .small c xs) ∧ (∀ c xs, kat kd q ≠ .small c xs)) : RpAt w mb L F ws ks ms kd' := by
  have back : ∀ q d zs, kat kd' q = .small d zs → kat kd q = .small d zs := by
    intro q d zs e
    rcases hs q with e' | ⟨e', _⟩
    · rw [← e']; exact e
    · exact absurd e (e' d zs)
  exact { h with
    head := by rw [hl]; exact h.head
    rowT := by
      rw [slots_same L kd kd' hl (fun q _ => by
        rcases hs q with e | ⟨e1, e2⟩
        · rw [e]
        · have t : ∀ y : PK, (∀ c xs, y ≠ .small c xs) → y.slot (L.T q) = .slice none 0 0 := by
            intro y hy
            cases y with
            | small c xs => exact absurd rfl (hy c xs)
            | _ => rfl
          rw [t _ e1, t _ e2])]
      exact h.rowT
    page := fun q d zs e => h.page q d zs (back q d zs e)
    lw := by rw [hl]; exact h.lw
    lk := by rw [hl]; exact h.lk
    lm := by rw [hl]; exact h.lm
    rp := fun q d zs e => h.rp q d zs (back q d zs e)
    fp := fun q d zs e => h.fp q d zs (back q d zs e) }
/-- A block of a page of a class is written. -/
theorem RpAt.inner {p c i : Nat} {xs : List Bool} {b : Bool} (h : RpAt w mb L F ws ks ms kd) (hk : kat kd p = .small c xs) : RpAt (w.setCell ⟨L.T p, i, none⟩ (.bool b)) mb L F ws ks ms (kd.set p (.small c (xs.set i b))) := by
  have hp := kat_lt kd p (by rw [hk]; simp)
  have K : Keep [L.T p] w (w.setCell ⟨L.T p, i, none⟩ (.bool b)) := Keep.setCell w _ (by simp)
  have rp := h.rp p c xs hk
  have n : ∀ {y m : Nat}, L.r y = m → m ≠ 5 + p → y ∉ [L.T p] := fun h1 h2 => by simpa using ne_role h1 rp h2
  have back : ∀ q d zs, kat (kd.set p (.small c (xs.set i b))) q = .small d zs → q = p ∧ d = c ∧ zs = xs.set i b ∨ q ≠ p ∧ kat kd q = .small d zs := by
    intro q d zs e
    rw [kat_set _ _ _ _ hp] at e
    split at e
    · cases e; exact .inl ⟨by assumption, rfl, rfl⟩
    · exact .inr ⟨by assumption, e⟩
  exact { h with
    head := by rw [List.length_set]; exact K.blk h.head (n h.r0 (by omega))
    rowW := h.rowW.keep K (n h.r1 (by omega))
    rowK := h.rowK.keep K (n h.r2 (by omega))
    rowM := h.rowM.keep K (n h.r3 (by omega))
    rowT := by
      rw [slots_same L kd (kd.set p (.small c (xs.set i b))) (by simp) (fun q hq => by
        rw [kat_set _ _ _ _ hp]
        split
        · rename_i e; subst e; rw [hk]; simp [PK.slot]
        · rfl)]
      exact K.blk h.rowT (n h.r4 (by omega))
    page := fun q d zs e => by
      rcases back q d zs e with ⟨rfl, rfl, rfl⟩ | ⟨hne, e'⟩
      · exact (h.page q d xs hk).put i b
      · have := h.rp q d zs e'
        exact (h.page q d zs e').keep K (n this (by omega))
    lw := by rw [List.length_set]; exact h.lw
    lk := by rw [List.length_set]; exact h.lk
    lm := by rw [List.length_set]; exact h.lm
    rp := fun q d zs e => by
      rcases back q d zs e with ⟨rfl, rfl, rfl⟩ | ⟨_, e'⟩
      · exact h.rp q d xs hk
      · exact h.rp q d zs e'
    fp := fun q d zs e => by
      rcases back q d zs e with ⟨rfl, rfl, rfl⟩ | ⟨_, e'⟩
      · exact h.fp q d xs hk
      · exact h.fp q d zs e'
    lt := ltKeep h.lt K }
/-- A page is of no class any more. -/
theorem RpAt.drop {p c : Nat} {xs : List Bool} (h : RpAt w mb L F ws ks ms kd) (hk : kat kd p = .small c xs) : RpAt (w.setCell ⟨L.gt, p, none⟩ (.slice none 0 0)) mb L F ws ks ms (kd.set p .free) := by
  have hp := kat_lt kd p (by rw [hk]; simp)
  have K : Keep [L.gt] w (w.setCell ⟨L.gt, p, none⟩ (.slice none 0 0)) := Keep.setCell w _ (by simp)
  have n : ∀ {y m : Nat}, L.r y = m → m ≠ 4 → y ∉ [L.gt] := fun h1 h2 => by simpa using ne_role h1 h.r4 h2
  have back : ∀ q d zs, kat (kd.set p .free) q = .small d zs → kat kd q = .small d zs := by
    intro q d zs e
    rw [kat_set _ _ _ _ hp] at e
    split at e
    · cases e
    · exact e
  exact { h with
    head := by rw [List.length_set]; exact K.blk h.head (n h.r0 (by omega))
    rowW := h.rowW.keep K (n h.r1 (by omega))
    rowK := h.rowK.keep K (n h.r2 (by omega))
    rowM := h.rowM.keep K (n h.r3 (by omega))
    rowT := by
      have := heap_setCell_same w L.gt p (slots L kd).toArray 137 (.slice none 0 0) h.rowT
      have e : (slots L kd).set p (.slice none 0 0) = slots L (kd.set p .free) := by
        apply List.ext_getElem?
        intro q
        rcases Nat.lt_or_ge q kd.length with hq | hq
        · rw [slots_get L (kd.set p .free) q (by simpa using hq), kat_set _ _ _ _ hp]
          by_cases e : q = p
          · subst e; simp [slots_length, hq, PK.slot]
          · rw [if_neg e, List.getElem?_set_ne (fun e' => e e'.symm), slots_get L kd q hq]
        · rw [List.getElem?_eq_none (by simpa [slots_length] using hq), List.getElem?_eq_none (by simpa [slots_length] using hq)]
      rw [← e]
      simpa using this
    page := fun q d zs e => by
      have e' := back q d zs e
      exact (h.page q d zs e').keep K (n (h.rp q d zs e') (by omega))
    lw := by rw [List.length_set]; exact h.lw
    lk := by rw [List.length_set]; exact h.lk
    lm := by rw [List.length_set]; exact h.lm
    rp := fun q d zs e => h.rp q d zs (back q d zs e)
    fp := fun q d zs e => h.fp q d zs (back q d zs e)
    lt := ltKeep h.lt K }
/-- A page is of a class from now on: one new block. -/
def RLay.more (L : RLay) (p q : Nat) : RLay := { L with T := fun i => if i = p then q else L.T i, r := fun k => if k = q then 5 + p else L.r k }
theorem RpAt.gain {p c q : Nat} {xs : List Bool} (h : RpAt w mb L F ws ks ms kd) (hp : p < kd.length) (hA : BRow w 4 q xs) (hn : q ∉ F) :
    RpAt (w.setCell ⟨L.gt, p, none⟩ (.slice (some ⟨q, 0, none⟩) xs.length xs.length)) mb (L.more p q) (q :: F) ws ks ms (kd.set p (.small c xs)) := by
  have K : Keep [L.gt] w (w.setCell ⟨L.gt, p, none⟩ (.slice (some ⟨q, 0, none⟩) xs.length xs.length)) := Keep.setCell w _ (by simp)
  have n : ∀ {y m : Nat}, L.r y = m → m ≠ 4 → y ∉ [L.gt] := fun h1 h2 => by simpa using ne_role h1 h.r4 h2
  obtain ⟨f0, f1, f2, f3, f4⟩ := h.f
  have nf : ∀ {x : Nat}, x ∈ F → x ≠ q := fun a e => hn (e ▸ a)
  have old : ∀ {x : Nat}, x ∈ F → (L.more p q).r x = L.r x := fun hx => if_neg (nf hx)
  have Tp : (L.more p q).T p = q := if_pos rfl
  have Tq : ∀ i, i ≠ p → (L.more p q).T i = L.T i := fun i e => if_neg e
  have mq : (L.more p q).r q = 5 + p := if_pos rfl
  have back : ∀ i d zs, kat (kd.set p (.small c xs)) i = .small d zs → i = p ∧ d = c ∧ zs = xs ∨ i ≠ p ∧ kat kd i = .small d zs := by
    intro i d zs e
    rw [kat_set _ _ _ _ hp] at e
    split at e
    · cases e; exact .inl ⟨by assumption, rfl, rfl⟩
    · exact .inr ⟨by assumption, e⟩
  have up : ∀ {x : Nat}, x ∈ F → x ∈ q :: F := fun hx => List.mem_cons_of_mem _ hx
  exact {
    head := by rw [List.length_set]; exact K.blk h.head (n h.r0 (by omega))
    rowW := h.rowW.keep K (n h.r1 (by omega))
    rowK := h.rowK.keep K (n h.r2 (by omega))
    rowM := h.rowM.keep K (n h.r3 (by omega))
    rowT := by
      have := heap_setCell_same w L.gt p (slots L kd).toArray 137 (.slice (some ⟨q, 0, none⟩) xs.length xs.length) h.rowT
      have e : (slots L kd).set p (.slice (some ⟨q, 0, none⟩) xs.length xs.length) = slots (L.more p q) (kd.set p (.small c xs)) := by
        apply List.ext_getElem?
        intro i
        rcases Nat.lt_or_ge i kd.length with hq | hq
        · rw [slots_get _ (kd.set p (.small c xs)) i (by simpa using hq), kat_set _ _ _ _ hp]
          by_cases e : i = p
          · subst e; rw [if_pos rfl, Tp]; simp [slots_length, hq, PK.slot]
          · rw [if_neg e, Tq i e, List.getElem?_set_ne (fun e' => e e'.symm), slots_get L kd i hq]
        · rw [List.getElem?_eq_none (by simpa [slots_length] using hq), List.getElem?_eq_none (by simpa [slots_length] using hq)]
      rw [← e]
      rw [show ((slots L kd).toArray.setIfInBounds p (.slice (some ⟨q, 0, none⟩) xs.length xs.length)) = ((slots L kd).set p (.slice (some ⟨q, 0, none⟩) xs.length xs.length)).toArray from by simp] at this
      exact this
    page := fun i d zs e => by
      rcases back i d zs e with ⟨rfl, rfl, rfl⟩ | ⟨hne, e'⟩
      · rw [Tp]
        exact hA.keep K (by simpa using fun e => nf f4 e.symm)
      · rw [Tq i hne]
        exact (h.page i d zs e').keep K (n (h.rp i d zs e') (by omega))
    lw := by rw [List.length_set]; exact h.lw
    lk := by rw [List.length_set]; exact h.lk
    lm := by rw [List.length_set]; exact h.lm
    r0 := (old f0).trans h.r0
    r1 := (old f1).trans h.r1
    r2 := (old f2).trans h.r2
    r3 := (old f3).trans h.r3
    r4 := (old f4).trans h.r4
    rp := fun i d zs e => by
      rcases back i d zs e with ⟨rfl, rfl, rfl⟩ | ⟨hne, e'⟩
      · rw [Tp]; exact mq
      · rw [Tq i hne]; exact (old (h.fp i d zs e')).trans (h.rp i d zs e')
    f := ⟨up f0, up f1, up f2, up f3, up f4⟩
    fp := fun i d zs e => by
      rcases back i d zs e with ⟨rfl, rfl, rfl⟩ | ⟨hne, e'⟩
      · rw [Tp]; simp
      · rw [Tq i hne]; exact up (h.fp i d zs e')
    lt := by
      intro k hk
      have hz : (w.setCell ⟨L.gt, p, none⟩ (.slice (some ⟨q, 0, none⟩) xs.length xs.length)).heap.size = w.heap.size := by simp [World.setCell]
      rw [hz]
      rcases List.mem_cons.1 hk with rfl | hk
      · exact hA.lt
      · exact h.lt k hk }
end

/-- The document's space whose rows are what its pages are. -/
def IsRef (w : World) (mb : Nat) (F : List Nat) (ws : List Int) (kd : List PK) : Prop := ∃ L, RpAt w mb L F ws (kindL kd) (bigL kd) kd
theorem IsRef.keep {S F : List Nat} {w w' : World} {mb : Nat} {ws : List Int} {kd : List PK} (h : IsRef w mb F ws kd) (K : Keep S w w') (hS : ∀ k, k ∈ F → k ∉ S) : IsRef w' mb F ws kd := by
  obtain ⟨L, h⟩ := h; exact ⟨L, h.keep K hS⟩
theorem IsRef.keep0 {F : List Nat} {w w' : World} {mb : Nat} {ws : List Int} {kd : List PK} (h : IsRef w mb F ws kd) (K : Keep [] w w') : IsRef w' mb F ws kd := h.keep K (by simp)
theorem IsRef.lt {F : List Nat} {w : World} {mb : Nat} {ws : List Int} {kd : List PK} (h : IsRef w mb F ws kd) : ∀ k, k ∈ F → k < w.heap.size := by
  obtain ⟨L, h⟩ := h; exact h.lt

end Go.Proofs.YtgpidokklhjfdaaGreat

/-
  fill, pages and Find of the document's own space.
-/
namespace Go.Proofs.YtgpidokklhjfdaaGreat
open Go.RowKit

theorem fill0_step (ws : List Int) (a m : Nat) (h : a + m < ws.length) : (fill0 ws a m).set (a + m) 0 = fill0 ws a (m + 1) := by
  refine eq_of_getD (by rw [List.length_set, fill0_length _ _ _ (by omega), fill0_length _ _ _ (by omega)]) (fun t => ?_)
  rw [fill0_get _ _ _ _ (by omega)]
  by_cases e : t = a + m
  · subst e; rw [set_get_same _ _ _ (by rw [fill0_length _ _ _ (by omega)]; exact h), if_pos (by omega)]
  · rw [set_get_other _ _ _ _ (fun e' => e e'.symm), fill0_get _ _ _ _ (by omega)]
    by_cases e2 : a ≤ t ∧ t < a + m
    · rw [if_pos e2, if_pos (by omega)]
    · rw [if_neg e2, if_neg (by omega)]
theorem fill0_zero (ws : List Int) (a : Nat) : fill0 ws a 0 = ws := by simp [fill0]

set_option maxHeartbeats 1000000 in
theorem rfill_any (mb a n : Nat) (L : RLay) (F : List Nat) (ws ks ms : List Int) (kd : List PK) (w : World) (h : RpAt w mb L F ws ks ms kd) (hl : a + n ≤ 64 * kd.length) (hn : kd.length ≤ 256) :
    Calls Tryz.prog 94 #[.pointer (some ⟨mb, 0, none⟩), .int .i64 a, .int .i64 n] w fun e w' => e = .returned (.tuple #[]) ∧ RpAt w' mb L F (fill0 ws a n) ks ms kd ∧ Keep [L.gw] w w' := by
  have HLW := (show Hid (ws.length = 64 * kd.length) from h.lw)
  obtain ⟨m, hm⟩ : ∃ m, 64 * kd.length = m := ⟨_, rfl⟩
  have HM := (show Hid (64 * kd.length = m) from hm)
  have hmb : m ≤ 16384 := by omega
  rw [hm] at hl
  have hsum : (a : Int) + n = ((a + n : Nat) : Int) := by omega
  obtain ⟨z, hz⟩ : ∃ z, a + n = z := ⟨_, rfl⟩
  rw [hz] at hsum
  clear hm hn
  go_enter Tryz.func94, Tryz.ntmps94
  go_wp2
  go_loopw [6] (fun i wr => ∃ j : Nat, i = .int .i64 j ∧ a ≤ j ∧ j ≤ z ∧ RpAt wr mb L F (fill0 ws a (j - a)) ks ms kd ∧ Keep [L.gw] w wr) (fun i _ => z - (intOf i).toNat)
  case atStart => exact ⟨a, rfl, by omega, by omega, by rw [Nat.sub_self, fill0_zero]; exact h, Keep.refl _ _⟩
  case round =>
    obtain ⟨j, rfl, hj1, hj2, hR, hK⟩ := hrel
    by_cases hlt : j < z
    · have c0 := hR.c0
      rw [HM.out] at c0
      have cw := hR.cw (p := j) (by rw [HM.out]; omega)
      have fw := hR.rowW.free j
      have hR2 := hR.setW j 0
      have hjj : a + (j - a) = j := by omega
      have e : (fill0 ws a (j - a)).set j 0 = fill0 ws a (j + 1 - a) := by
        have := fill0_step ws a (j - a) (by rw [HLW.out, HM.out]; omega)
        rw [hjj] at this
        rw [this, show j - a + 1 = j + 1 - a by omega]
      rw [e] at hR2
      have HR2 := (show Hid (RpAt (wr.setCell ⟨L.gw, j, none⟩ (.int .i64 0)) mb L F (fill0 ws a (j + 1 - a)) ks ms kd) from hR2)
      have HK2 := (show Hid (Keep [L.gw] w (wr.setCell ⟨L.gw, j, none⟩ (.int .i64 0))) from hK.trans (Keep.setCell _ _ (by simp)))
      clear hR hR2 e hK
      go_wp2
      go_roundw
      case rel => exact ⟨j + 1, by go_num, by omega, by omega, HR2.out, HK2.out⟩
      case measure => simp [intOf]; omega
    · obtain rfl : j = z := by omega
      have HR := (show Hid (RpAt wr mb L F (fill0 ws a n) ks ms kd) from by rw [show j - a = n by omega] at hR; exact hR)
      clear hR
      go_wp2
      go_end0
      exact ⟨rfl, HR.out, hK⟩

theorem kind_taken (x : PK) : decide (x.kind ≠ 0) = x.taken := by
  cases x with
  | small c xs => exact decide_eq_true (by show (c : Int) + 1 ≠ 0; omega)
  | part j k => cases j <;> rfl
  | _ => rfl
theorem kind_eq0 (x : PK) : (x.kind = 0 ∧ x.taken = false) ∨ (x.kind ≠ 0 ∧ x.taken = true) := by
  have := kind_taken x
  by_cases e : x.kind = 0
  · rw [decide_eq_false (by simpa using e)] at this; exact .inl ⟨e, this.symm⟩
  · rw [decide_eq_true e] at this; exact .inr ⟨e, this.symm⟩

set_option maxHeartbeats 1000000 in
theorem rpages_ok (mb : Nat) (L : RLay) (F : List Nat) (ws ms : List Int) (kd : List PK) (w : World) (h : RpAt w mb L F ws (kindL kd) ms kd) (h1 : 1 ≤ kd.length) (hn : kd.length ≤ 256) :
    Calls Tryz.prog 92 #[.pointer (some ⟨mb, 0, none⟩)] w fun e w' => ∃ g, e = .returned (.slice (some ⟨g, 0, none⟩) kd.length kd.length) ∧ BRow w' 4 g (takenL kd) ∧ Keep [] w w' ∧ w.heap.size ≤ g := by
  obtain ⟨n, hn'⟩ : ∃ n, kd.length = n := ⟨_, rfl⟩
  have HN := (show Hid (kd.length = n) from hn')
  rw [hn'] at h1 hn ⊢
  have c1 := h.c1
  rw [hn'] at c1
  have hmk : ∀ w, (Instr.makeSlice 137 (.int .i64 (n : Int)) (.int .i64 (n : Int))).run Tryz.prog w = .ok (.slice (some ⟨w.heap.size, 0, none⟩) n n) (w.alloc (.cells (madeCells #[.bool false] n) 4)) :=
    fun w => run_make_row' (P := Tryz.prog) 137 4 (.bool false) 1 Tryz.underlying137 Tryz.infoBool rfl .i64 .i64 n (by omega) (by omega) w
  have hR := BRow.made w 4 n
  have hK := Keep.alloc [] w (.cells (madeCells #[.bool false] n) 4)
  have hz : (w.alloc (.cells (madeCells #[.bool false] n) 4)).heap.size = w.heap.size + 1 := by simp
  have HM := (show Hid (RpAt w mb L F ws (kindL kd) ms kd) from h)
  clear hn' h
  go_enter Tryz.func92, Tryz.ntmps92
  go_wp2
  obtain ⟨g, hg⟩ : ∃ g, w.heap.size = g := ⟨_, rfl⟩
  rw [hg] at hR ⊢
  generalize w.alloc (.cells (madeCells #[.bool false] n) 4) = w1 at *
  clear hmk c1 hz
  go_loopw [4] (fun i wr => ∃ (j : Nat) (xs : List Bool), i = .int .i64 j ∧ j ≤ n ∧ Hid (xs.length = n) ∧ Hid (∀ t, t < j → xs[t]?.getD false = (kat kd t).taken) ∧ BRow wr 4 g xs ∧ Keep [g] w wr) (fun i _ => n - (intOf i).toNat)
  case atStart => exact ⟨0, _, rfl, by omega, offs_length n, fun t h => by omega, hR, hK.mono (by simp)⟩
  case round =>
    obtain ⟨j, xs, rfl, hj, HL, HJ, hR2, hK2⟩ := hrel
    obtain ⟨w2, rfl⟩ : ∃ w2, w2 = wr := ⟨_, rfl⟩
    clear hR hK
    by_cases hlt : j < n
    · have hF : ∀ k, k ∈ F → k ∉ [g] := fun k e => by have := HM.out.lt k e; simp; omega
      have hM2 := HM.out.keep hK2 hF
      have c1 := hM2.c1
      rw [HN.out] at c1
      have ck := hM2.ck (p := j) (by rw [HN.out]; exact hlt)
      rw [kindL_get] at ck
      have cb := hR2.cell (i := j) (by rw [HL.out]; exact hlt)
      have fb := hR2.free j
      rcases kind_eq0 (kat kd j) with ⟨e1, e2⟩ | ⟨e1, e2⟩
      · rw [e1] at ck
        have hR3 := hR2.put j false
        have HR3 := (show Hid (BRow (w2.setCell ⟨g, j, none⟩ (.bool false)) 4 g (xs.set j false)) from hR3)
        have HK3 := (show Hid (Keep [g] w (w2.setCell ⟨g, j, none⟩ (.bool false))) from hK2.trans (Keep.setCell _ _ (by simp)))
        have HT := (show Hid ((kat kd j).taken = false) from e2)
        clear hM2 hR2 hR3 hK2 e1 e2
        go_wp2
        go_roundw
        case rel =>
          refine ⟨j + 1, xs.set j false, by go_num, by omega, by show _ = _; rw [List.length_set]; exact HL.out, fun t ht => ?_, HR3.out, HK3.out⟩
          by_cases e : t = j
          · subst e; rw [bset_same _ _ _ (by rw [HL.out]; exact hlt), HT.out]
          · rw [bset_other _ _ _ _ (fun e' => e e'.symm)]; exact HJ.out t (by omega)
        case measure => simp [intOf]; omega
      · generalize (kat kd j).kind = kv at *
        have hkd : decide (kv = 0) = false := by rw [decide_eq_false_iff_not]; exact e1
        have hkb : (kv != 0) = true := by simpa using e1
        have hR3 := hR2.put j true
        have HR3 := (show Hid (BRow (w2.setCell ⟨g, j, none⟩ (.bool true)) 4 g (xs.set j true)) from hR3)
        have HK3 := (show Hid (Keep [g] w (w2.setCell ⟨g, j, none⟩ (.bool true))) from hK2.trans (Keep.setCell _ _ (by simp)))
        have HT := (show Hid ((kat kd j).taken = true) from e2)
        clear hM2 hR2 hR3 hK2 e2
        go_wp2
        go_roundw
        case rel =>
          refine ⟨j + 1, xs.set j true, by go_num, by omega, by show _ = _; rw [List.length_set]; exact HL.out, fun t ht => ?_, HR3.out, HK3.out⟩
          by_cases e : t = j
          · subst e; rw [bset_same _ _ _ (by rw [HL.out]; exact hlt), HT.out]
          · rw [bset_other _ _ _ _ (fun e' => e e'.symm)]; exact HJ.out t (by omega)
        case measure => simp [intOf]; omega
    · obtain rfl : j = n := by omega
      have HE := (show Hid (BRow w2 4 g (takenL kd)) from by
        have : xs = takenL kd := beq_of_getD (by rw [HL.out, takenL_length, HN.out]) (fun t => by
          rw [takenL_get]
          by_cases ht : t < j
          · exact HJ.out t ht
          · rw [List.getElem?_eq_none (by rw [HL.out]; omega), kat_out kd t (by rw [HN.out]; omega)]; rfl)
        rw [← this]; exact hR2)
      have HK3 := (show Hid (Keep [] w w2) from hK2.drop (fun k e hlt => by simp at e; omega))
      clear hR2 hK2
      go_wp2
      go_ret
      exact ⟨g, rfl, HE.out, HK3.out, by omega⟩

/-- What the document's Find hands back. -/
def foundA : Option (Nat × Nat) → Value
  | some (s, n) => .agg #[.int .i64 s, .int .i64 n, .bool true]
  | none => .agg #[.int .i64 0, .int .i64 0, .bool false]
/-- A result of three cells, laid down in a block of its own. -/
theorem three_set {w : World} {bx : Nat} {t : TypeId} {v0 v1 v2 a b c : Value} (h : w.heap[bx]? = some (.cells #[v0, v1, v2] t (0, 0))) :
    (((w.setCell ⟨bx, 0, none⟩ a).setCell ⟨bx, 1, none⟩ b).setCell ⟨bx, 2, none⟩ c).heap[bx]? = some (.cells #[a, b, c] t (0, 0)) := by
  have z1 := heap_setCell_same w bx 0 _ _ a h
  have z2 := heap_setCell_same _ bx 1 _ _ b z1
  have z3 := heap_setCell_same _ bx 2 _ _ c z2
  simpa using z3

theorem Keep.three {w w2 : World} {bx : Nat} {a b c : Value} (h : Keep [] w w2) (hb : w.heap.size = bx) : Keep [] w (((w2.setCell ⟨bx, 0, none⟩ a).setCell ⟨bx, 1, none⟩ b).setCell ⟨bx, 2, none⟩ c) :=
  ((((h.mono (T := [bx]) (by simp)).trans (Keep.setCell _ _ (by simp))).trans (Keep.setCell _ _ (by simp))).trans (Keep.setCell _ _ (by simp))).drop (fun k e hlt => by simp at e; omega)
set_option maxHeartbeats 2000000 in
theorem rfind_out (mb gw n : Nat) (a : Int) (w : World) (hc0 : w.cell? ⟨mb, 0, none⟩ = some (.slice (some ⟨gw, 0, none⟩) n n)) (hmb : mb < w.heap.size) (h : ¬ (0 ≤ a ∧ a < n)) :
    Calls Tryz.prog 70 #[.pointer (some ⟨mb, 0, none⟩), .int .i64 a] w fun e w' => e = .returned (.agg #[.int .i64 0, .int .i64 0, .bool false]) ∧ Keep [] w w' := by
  have hx := heap_alloc_new w (.cells #[.int .i64 0, .int .i64 0, .bool false] 133)
  have hK := Keep.alloc [] w (.cells #[.int .i64 0, .int .i64 0, .bool false] 133)
  have hc1 := (hK.cell hmb (by simp) 0).trans hc0
  rcases (show a < 0 ∨ 0 ≤ a ∧ (n : Int) ≤ a by omega) with h1 | ⟨h0, h1⟩
  · have hd : decide (a < 0) = true := by rw [decide_eq_true_iff]; exact h1
    clear hc1 hc0
    go_enter Tryz.func70, Tryz.ntmps70
    go_wp2
    refine bodyPost_ret (results_cell_row rfl _ _ w.heap.size 133 #[.int .i64 0, .int .i64 0, .bool false] (0, 0) _ rfl (heap_alloc_new w _) Tryz.underlying133 rfl (by kernel_rfl)) rfl ?_
    exact ⟨rfl, hK⟩
  · have hd : decide (a < 0) = false := by rw [decide_eq_false_iff_not]; omega
    have hd2 : decide ((n : Int) ≤ a) = true := by rw [decide_eq_true_iff]; exact h1
    go_enter Tryz.func70, Tryz.ntmps70
    go_wp2
    refine bodyPost_ret (results_cell_row rfl _ _ w.heap.size 133 #[.int .i64 0, .int .i64 0, .bool false] (0, 0) _ rfl (heap_alloc_new w _) Tryz.underlying133 rfl (by kernel_rfl)) rfl ?_
    exact ⟨rfl, hK⟩
set_option maxHeartbeats 2000000 in
theorem rfind_small (mb a p n m gw gk gt q c s i r : Nat) (xs : List Bool) (w : World) (hlt : mb < w.heap.size ∧ gk < w.heap.size ∧ gt < w.heap.size ∧ q < w.heap.size)
    (hc0 : w.cell? ⟨mb, 0, none⟩ = some (.slice (some ⟨gw, 0, none⟩) m m)) (hc1 : w.cell? ⟨mb, 1, none⟩ = some (.slice (some ⟨gk, 0, none⟩) n n)) (hc3 : w.cell? ⟨mb, 3, none⟩ = some (.slice (some ⟨gt, 0, none⟩) n n))
    (hck : w.cell? ⟨gk, p, none⟩ = some (.int .i64 ((c : Int) + 1))) (hct : w.cell? ⟨gt, p, none⟩ = some (.slice (some ⟨q, 0, none⟩) xs.length xs.length)) (hR : BRow w 4 q xs) (hp : p < n) (ham : a < m) (hm : m ≤ 16384) (hc : c < 5) (hs : sz c = s)
    (h1 : (a : Int) / 64 = p) (h2 : (a : Int).tdiv 64 = p) (h3 : (a : Int) % 64 = r) (h4 : (a : Int).tmod 64 = r) (h5 : (r : Int) / s = i) (h6 : (r : Int).tdiv s = i) (hs0 : (s : Int) ≠ 0) (hi : i < xs.length) (hib : i ≤ 32) (hsb : s ≤ 32) :
    Calls Tryz.prog 70 #[.pointer (some ⟨mb, 0, none⟩), .int .i64 a] w fun e w' => e = .returned (if xs[i]?.getD false = true then .agg #[.int .i64 ((64 * p + i * s : Nat) : Int), .int .i64 s, .bool true] else .agg #[.int .i64 0, .int .i64 0, .bool false]) ∧ Keep [] w w' := by
  have hx := heap_alloc_new w (.cells #[.int .i64 0, .int .i64 0, .bool false] 133)
  have hK := Keep.alloc [] w (.cells #[.int .i64 0, .int .i64 0, .bool false] 133)
  have d0 := (hK.cell hlt.1 (by simp) 0).trans hc0
  have d1 := (hK.cell hlt.1 (by simp) 1).trans hc1
  have d2 := (hK.cell hlt.2.1 (by simp) p).trans hck
  have HT := (show Hid (∀ w', Keep [] w w' → w'.cell? ⟨mb, 3, none⟩ = some (.slice (some ⟨gt, 0, none⟩) n n) ∧ w'.cell? ⟨gt, p, none⟩ = some (.slice (some ⟨q, 0, none⟩) xs.length xs.length) ∧ w'.cell? ⟨q, i, none⟩ = some (.bool (xs[i]?.getD false))) from fun w' k =>
    ⟨(k.cell hlt.1 (by simp) 3).trans hc3, (k.cell hlt.2.2.1 (by simp) p).trans hct, (hR.keep k (by simp)).cell hi⟩)
  have HSL := (show Hid (sizesL[c]?.getD 0 = (s : Nat)) from by show _ = _; rw [← hs]; exact (sz_facts c hc).1)
  have hw1 : IntKind.i64.wrap ((r : Int).tdiv s) = i := by rw [h6]; exact IntWalk.i64_in _ (by omega)
  have hw2 : IntKind.i64.wrap ((r : Int) / s) = i := by rw [h5]; exact IntWalk.i64_in _ (by omega)
  obtain ⟨y, hy⟩ : ∃ y : Nat, i * s = y := ⟨_, rfl⟩
  have hyb : y ≤ 32 * 32 := by rw [← hy]; exact Nat.mul_le_mul hib hsb
  have hyi : (i : Int) * (s : Int) = y := by rw [← hy]; exact (Int.natCast_mul i s).symm
  have hyw : IntKind.i64.wrap ((i : Int) * s) = y := by rw [hyi]; exact IntWalk.i64_in _ (by omega)
  have HA := (show Hid ((p : Int) * 64 + y = ((64 * p + i * s : Nat) : Int)) from by show _ = _; rw [hy]; omega)
  have HI := (show Hid (i < xs.length) from hi)
  have hda : decide ((a : Int) < 0) = false := by rw [decide_eq_false_iff_not]; omega
  have hdb : decide ((m : Int) ≤ (a : Int)) = false := by rw [decide_eq_false_iff_not]; omega
  have hdc : decide ((1 : Int) ≤ (c : Int) + 1) = true := by rw [decide_eq_true_iff]; omega
  have hdd : decide ((c : Int) + 1 ≤ 5) = true := by rw [decide_eq_true_iff]; omega
  have hcc : (c : Int) + 1 - 1 = c := by omega
  obtain ⟨xl, hxl⟩ : ∃ xl, xs.length = xl := ⟨_, rfl⟩
  rw [hxl] at HT HI
  have hil : i < xl := HI.out
  cases hv : xs[i]?.getD false
  · rw [if_neg (by simp)]
    rw [hv] at HT
    clear hv hc0 hc1 hc3 hck hct hR hs hy hxl hi
    go_enter Tryz.func70, Tryz.ntmps70
    go_wp2_with fail
    refine (rsizes_any _).mono ?_
    rintro e w2 ⟨gz, rfl, hr, hK2, hgz⟩
    have hxz := hr.cell (i := c) hc
    rw [HSL.out] at hxz
    have hK3 := hK.trans hK2
    obtain ⟨t1, t2, t3⟩ := HT.out _ hK3
    have hx2 := hK2.blk hx (by simp)
    obtain ⟨bx, hbx⟩ : ∃ bx, w.heap.size = bx := ⟨_, rfl⟩
    rw [hbx] at hx2 ⊢
    have f0 : w2.frozen? ⟨bx, 0, none⟩ = false := by simp [World.frozen?, hx2]
    have f1 : w2.frozen? ⟨bx, 1, none⟩ = false := by simp [World.frozen?, hx2]
    have f2 : w2.frozen? ⟨bx, 2, none⟩ = false := by simp [World.frozen?, hx2]
    have g0 : w2.cell? ⟨bx, 0, none⟩ = some (.int .i64 0) := by simp [World.cell?, hx2]
    have g1 : w2.cell? ⟨bx, 1, none⟩ = some (.int .i64 0) := by simp [World.cell?, hx2]
    have g2 : w2.cell? ⟨bx, 2, none⟩ = some (.bool false) := by simp [World.cell?, hx2]
    have hltx : mb < bx ∧ gk < bx ∧ gt < bx ∧ q < bx := by omega
    have HKF := (show Hid (∀ a b c, Keep [] w (((w2.setCell ⟨bx, 0, none⟩ a).setCell ⟨bx, 1, none⟩ b).setCell ⟨bx, 2, none⟩ c)) from fun a b c => Keep.three hK3 hbx)
    go_wp2
    refine bodyPost_ret (results_cell_row rfl _ _ bx 133 #[.int .i64 0, .int .i64 0, .bool false] (0, 0) _ rfl (three_set hx2) Tryz.underlying133 rfl (by kernel_rfl)) rfl ?_
    exact ⟨rfl, HKF.out _ _ _⟩
  · rw [if_pos rfl, ← HA.out]
    rw [hv] at HT
    clear hv hc0 hc1 hc3 hck hct hR hs hy hxl hi
    go_enter Tryz.func70, Tryz.ntmps70
    go_wp2_with fail
    refine (rsizes_any _).mono ?_
    rintro e w2 ⟨gz, rfl, hr, hK2, hgz⟩
    have hxz := hr.cell (i := c) hc
    rw [HSL.out] at hxz
    have hK3 := hK.trans hK2
    obtain ⟨t1, t2, t3⟩ := HT.out _ hK3
    have hx2 := hK2.blk hx (by simp)
    obtain ⟨bx, hbx⟩ : ∃ bx, w.heap.size = bx := ⟨_, rfl⟩
    rw [hbx] at hx2 ⊢
    have f0 : w2.frozen? ⟨bx, 0, none⟩ = false := by simp [World.frozen?, hx2]
    have f1 : w2.frozen? ⟨bx, 1, none⟩ = false := by simp [World.frozen?, hx2]
    have f2 : w2.frozen? ⟨bx, 2, none⟩ = false := by simp [World.frozen?, hx2]
    have g0 : w2.cell? ⟨bx, 0, none⟩ = some (.int .i64 0) := by simp [World.cell?, hx2]
    have g1 : w2.cell? ⟨bx, 1, none⟩ = some (.int .i64 0) := by simp [World.cell?, hx2]
    have g2 : w2.cell? ⟨bx, 2, none⟩ = some (.bool false) := by simp [World.cell?, hx2]
    have hltx : mb < bx ∧ gk < bx ∧ gt < bx ∧ q < bx := by omega
    have HKF := (show Hid (∀ a b c, Keep [] w (((w2.setCell ⟨bx, 0, none⟩ a).setCell ⟨bx, 1, none⟩ b).setCell ⟨bx, 2, none⟩ c)) from fun a b c => Keep.three hK3 hbx)
    go_wp2
    refine bodyPost_ret (results_cell_row rfl _ _ bx 133 #[.int .i64 ((p : Int) * 64 + y), .int .i64 s, .bool true] (0, 0) _ rfl (three_set hx2) Tryz.underlying133 rfl (by kernel_rfl)) rfl ?_
    exact ⟨rfl, HKF.out _ _ _⟩

set_option maxHeartbeats 2000000 in
/-- A page that is of no class: down to where its larger block begins, if it is of one. -/
theorem rfind_down (mb a p n m gw gk gm : Nat) (v : Nat → Int) (k : Int) (q : Nat) (w : World) (hlt : mb < w.heap.size ∧ gk < w.heap.size ∧ gm < w.heap.size)
    (hc0 : w.cell? ⟨mb, 0, none⟩ = some (.slice (some ⟨gw, 0, none⟩) m m)) (hc1 : w.cell? ⟨mb, 1, none⟩ = some (.slice (some ⟨gk, 0, none⟩) n n)) (hc2 : w.cell? ⟨mb, 2, none⟩ = some (.slice (some ⟨gm, 0, none⟩) n n))
    (hck : ∀ t, t < n → w.cell? ⟨gk, t, none⟩ = some (.int .i64 (v t))) (hcm : w.cell? ⟨gm, q, none⟩ = some (.int .i64 k)) (hp : p < n) (hn : n ≤ 256) (ham : a < m) (h1 : (a : Int) / 64 = p) (h2 : (a : Int).tdiv 64 = p)
    (hv0 : v p < 1 ∨ 5 < v p) (hqp : q ≤ p) (hv : ∀ t, q < t → t ≤ p → v t = 7) (hq : v q ≠ 7) (hk : 0 ≤ k ∧ k ≤ 300) :
    Calls Tryz.prog 70 #[.pointer (some ⟨mb, 0, none⟩), .int .i64 a] w fun e w' => e = .returned (if v q = 6 then .agg #[.int .i64 ((64 * q : Nat) : Int), .int .i64 (k * 64), .bool true] else .agg #[.int .i64 0, .int .i64 0, .bool false]) ∧ Keep [] w w' := by
  have hx := heap_alloc_new w (.cells #[.int .i64 0, .int .i64 0, .bool false] 133)
  have hK := Keep.alloc [] w (.cells #[.int .i64 0, .int .i64 0, .bool false] 133)
  have d0 := (hK.cell hlt.1 (by simp) 0).trans hc0
  have d1 := (hK.cell hlt.1 (by simp) 1).trans hc1
  have d2 := (hK.cell hlt.1 (by simp) 2).trans hc2
  have d3 := (hK.cell hlt.2.1 (by simp) p).trans (hck p hp)
  have d4 := (hK.cell hlt.2.2 (by simp) q).trans hcm
  have HCK := (show Hid (∀ t, t < n → (w.alloc (.cells #[.int .i64 0, .int .i64 0, .bool false] 133)).cell? ⟨gk, t, none⟩ = some (.int .i64 (v t))) from fun t ht => (hK.cell hlt.2.1 (by simp) t).trans (hck t ht))
  have hda : decide ((a : Int) < 0) = false := by rw [decide_eq_false_iff_not]; omega
  have hdb : decide ((m : Int) ≤ (a : Int)) = false := by rw [decide_eq_false_iff_not]; omega
  have HV := (show Hid (∀ t, q < t → t ≤ p → v t = 7) from hv)
  have HA := (show Hid ((q : Int) * 64 = ((64 * q : Nat) : Int)) from by show _ = _; omega)
  obtain ⟨bx, hbx⟩ : ∃ bx, w.heap.size = bx := ⟨_, rfl⟩
  rw [hbx] at hx hlt
  obtain ⟨vp, hvp⟩ : ∃ vp, v p = vp := ⟨_, rfl⟩
  rw [hvp] at d3 hv0
  obtain ⟨vq, hvq⟩ : ∃ vq, v q = vq := ⟨_, rfl⟩
  have HVQ := (show Hid (v q = vq) from hvq)
  rw [hvq] at hq ⊢
  clear hc0 hc1 hc2 hck hcm hv hvp hvq
  have fin : ∀ (res : Value), (if vq = 6 then Value.agg #[.int .i64 ((64 * q : Nat) : Int), .int .i64 (k * 64), .bool true] else .agg #[.int .i64 0, .int .i64 0, .bool false]) = res →
      Calls Tryz.prog 70 #[.pointer (some ⟨mb, 0, none⟩), .int .i64 a] w fun e w' => e = .returned res ∧ Keep [] w w' := by
    intro res hres
    have HRES := (show Hid ((if vq = 6 then Value.agg #[.int .i64 ((64 * q : Nat) : Int), .int .i64 (k * 64), .bool true] else .agg #[.int .i64 0, .int .i64 0, .bool false]) = res) from hres)
    clear hres
    rcases hv0 with hv0 | hv0
    · have hdc : decide ((1 : Int) ≤ vp) = false := by rw [decide_eq_false_iff_not]; omega
      go_enter Tryz.func70, Tryz.ntmps70
      go_wp2
      generalize w.alloc (.cells #[.int .i64 0, .int .i64 0, .bool false] 133) = w1 at *
      have f0 : w1.frozen? ⟨bx, 0, none⟩ = false := by simp [World.frozen?, hx]
      have f1 : w1.frozen? ⟨bx, 1, none⟩ = false := by simp [World.frozen?, hx]
      have f2 : w1.frozen? ⟨bx, 2, none⟩ = false := by simp [World.frozen?, hx]
      have g0 : w1.cell? ⟨bx, 0, none⟩ = some (.int .i64 0) := by simp [World.cell?, hx]
      have g1 : w1.cell? ⟨bx, 1, none⟩ = some (.int .i64 0) := by simp [World.cell?, hx]
      have g2 : w1.cell? ⟨bx, 2, none⟩ = some (.bool false) := by simp [World.cell?, hx]
      have HKF := (show Hid (∀ a b c, Keep [] w (((w1.setCell ⟨bx, 0, none⟩ a).setCell ⟨bx, 1, none⟩ b).setCell ⟨bx, 2, none⟩ c)) from fun a b c => Keep.three hK hbx)
      go_loop [5] (fun i => ∃ j : Nat, i = .int .i64 j ∧ q ≤ j ∧ j ≤ p) (fun i => (intOf i).toNat)
      case atStart => exact ⟨p, rfl, hqp, by omega⟩
      case round =>
        obtain ⟨j, rfl, hqj, hjp⟩ := hrel
        by_cases hqlt : q < j
        · have hxj := HCK.out j (by omega)
          rw [HV.out j hqlt hjp] at hxj
          go_wp2
          go_round
          case rel => exact ⟨j - 1, by go_num, by omega, by omega⟩
          case measure => simp [intOf]; omega
        · obtain rfl : j = q := by omega
          have hxj := HCK.out j (by omega)
          rw [HVQ.out] at hxj
          have hd7 : decide (vq = 7) = false := by rw [decide_eq_false_iff_not]; exact hq
          have hjj : j = 0 ∨ 0 < j := by omega
          by_cases h6 : vq = 6
          · have hr := HRES.out
            rw [if_pos h6, ← HA.out] at hr
            have HR := (show Hid (Value.agg #[.int .i64 ((j : Int) * 64), .int .i64 (k * 64), .bool true] = res) from hr)
            clear hr
            subst h6
            rcases hjj with rfl | hj0
            all_goals
              go_wp2
              refine bodyPost_ret (results_cell_row rfl _ _ bx 133 #[_, .int .i64 (k * 64), .bool true] (0, 0) _ rfl (three_set hx) Tryz.underlying133 rfl (by kernel_rfl)) rfl ?_
              exact ⟨by have h := HR.out; first | (rw [← h]; done) | (rw [← h]; rfl), HKF.out _ _ _⟩
          · have hr := HRES.out
            rw [if_neg h6] at hr
            have HR := (show Hid (Value.agg #[.int .i64 0, .int .i64 0, .bool false] = res) from hr)
            have hd6 : decide (vq = 6) = false := by rw [decide_eq_false_iff_not]; exact h6
            clear hr
            rcases hjj with rfl | hj0
            all_goals
              go_wp2
              refine bodyPost_ret (results_cell_row rfl _ _ bx 133 #[.int .i64 0, .int .i64 0, .bool false] (0, 0) _ rfl (three_set hx) Tryz.underlying133 rfl (by kernel_rfl)) rfl ?_
              exact ⟨by have h := HR.out; first | (rw [← h]; done) | (rw [← h]; rfl), HKF.out _ _ _⟩
    · have hdc : decide ((1 : Int) ≤ vp) = true := by rw [decide_eq_true_iff]; omega
      have hdd : decide (vp ≤ 5) = false := by rw [decide_eq_false_iff_not]; omega
      go_enter Tryz.func70, Tryz.ntmps70
      go_wp2
      generalize w.alloc (.cells #[.int .i64 0, .int .i64 0, .bool false] 133) = w1 at *
      have f0 : w1.frozen? ⟨bx, 0, none⟩ = false := by simp [World.frozen?, hx]
      have f1 : w1.frozen? ⟨bx, 1, none⟩ = false := by simp [World.frozen?, hx]
      have f2 : w1.frozen? ⟨bx, 2, none⟩ = false := by simp [World.frozen?, hx]
      have g0 : w1.cell? ⟨bx, 0, none⟩ = some (.int .i64 0) := by simp [World.cell?, hx]
      have g1 : w1.cell? ⟨bx, 1, none⟩ = some (.int .i64 0) := by simp [World.cell?, hx]
      have g2 : w1.cell? ⟨bx, 2, none⟩ = some (.bool false) := by simp [World.cell?, hx]
      have HKF := (show Hid (∀ a b c, Keep [] w (((w1.setCell ⟨bx, 0, none⟩ a).setCell ⟨bx, 1, none⟩ b).setCell ⟨bx, 2, none⟩ c)) from fun a b c => Keep.three hK hbx)
      go_loop [5] (fun i => ∃ j : Nat, i = .int .i64 j ∧ q ≤ j ∧ j ≤ p) (fun i => (intOf i).toNat)
      case atStart => exact ⟨p, rfl, hqp, by omega⟩
      case round =>
        obtain ⟨j, rfl, hqj, hjp⟩ := hrel
        by_cases hqlt : q < j
        · have hxj := HCK.out j (by omega)
          rw [HV.out j hqlt hjp] at hxj
          go_wp2
          go_round
          case rel => exact ⟨j - 1, by go_num, by omega, by omega⟩
          case measure => simp [intOf]; omega
        · obtain rfl : j = q := by omega
          have hxj := HCK.out j (by omega)
          rw [HVQ.out] at hxj
          have hd7 : decide (vq = 7) = false := by rw [decide_eq_false_iff_not]; exact hq
          have hjj : j = 0 ∨ 0 < j := by omega
          by_cases h6 : vq = 6
          · have hr := HRES.out
            rw [if_pos h6, ← HA.out] at hr
            have HR := (show Hid (Value.agg #[.int .i64 ((j : Int) * 64), .int .i64 (k * 64), .bool true] = res) from hr)
            clear hr
            subst h6
            rcases hjj with rfl | hj0
            all_goals
              go_wp2
              refine bodyPost_ret (results_cell_row rfl _ _ bx 133 #[_, .int .i64 (k * 64), .bool true] (0, 0) _ rfl (three_set hx) Tryz.underlying133 rfl (by kernel_rfl)) rfl ?_
              exact ⟨by have h := HR.out; first | (rw [← h]; done) | (rw [← h]; rfl), HKF.out _ _ _⟩
          · have hr := HRES.out
            rw [if_neg h6] at hr
            have HR := (show Hid (Value.agg #[.int .i64 0, .int .i64 0, .bool false] = res) from hr)
            have hd6 : decide (vq = 6) = false := by rw [decide_eq_false_iff_not]; exact h6
            clear hr
            rcases hjj with rfl | hj0
            all_goals
              go_wp2
              refine bodyPost_ret (results_cell_row rfl _ _ bx 133 #[.int .i64 0, .int .i64 0, .bool false] (0, 0) _ rfl (three_set hx) Tryz.underlying133 rfl (by kernel_rfl)) rfl ?_
              exact ⟨by have h := HR.out; first | (rw [← h]; done) | (rw [← h]; rfl), HKF.out _ _ _⟩
  exact fin _ rfl

theorem kind_small (x : PK) (h : ∀ c xs, x ≠ .small c xs) : x.kind < 1 ∨ 5 < x.kind := by
  cases x with
  | small c xs => exact absurd rfl (h c xs)
  | part j k => cases j <;> simp [PK.kind]
  | _ => simp [PK.kind]
theorem down_facts {kd : List PK} (h : WF kd) (p : Nat) (hs : ∀ c xs, kat kd p ≠ .small c xs) (a : Nat) (ha : a / 64 = p) :
    ∃ q, q ≤ p ∧ (∀ t, q < t → t ≤ p → (kat kd t).kind = 7) ∧ (kat kd q).kind ≠ 7 ∧ 0 ≤ (kat kd q).big ∧ (kat kd q).big ≤ 300 ∧
      (if (kat kd q).kind = 6 then Value.agg #[.int .i64 ((64 * q : Nat) : Int), .int .i64 ((kat kd q).big * 64), .bool true] else .agg #[.int .i64 0, .int .i64 0, .bool false]) = foundA (findN kd a) := by
  cases hk : kat kd p with
  | small c xs => exact absurd hk (hs c xs)
  | zero => exact ⟨p, by omega, fun t a b => by omega, by rw [hk]; simp [PK.kind], by rw [hk]; simp [PK.big], by rw [hk]; simp [PK.big], by rw [hk, find_zero kd a (by rw [ha]; exact hk), if_neg (by simp [PK.kind])]; rfl⟩
  | free => exact ⟨p, by omega, fun t a b => by omega, by rw [hk]; simp [PK.kind], by rw [hk]; simp [PK.big], by rw [hk]; simp [PK.big], by rw [hk, find_free kd a (by rw [ha]; exact hk), if_neg (by simp [PK.kind])]; rfl⟩
  | part j k =>
    obtain ⟨g1, g2, g3, g4⟩ := h.part p j k hk
    have e0 := g4 0 (by omega)
    rw [Nat.add_zero] at e0
    have hb : (kat kd (p - j)).big = k := by rw [e0]; rfl
    refine ⟨p - j, by omega, fun t a b => ?_, by rw [e0]; simp [PK.kind], by rw [hb]; omega, by rw [hb]; omega, ?_⟩
    · have := g4 (t - (p - j)) (by omega)
      rw [show p - j + (t - (p - j)) = t by omega] at this
      obtain ⟨m, hm⟩ : ∃ m, t - (p - j) = m + 1 := ⟨t - (p - j) - 1, by omega⟩
      rw [this, hm]; rfl
    · rw [hb, if_pos (by rw [e0]; rfl), find_part kd a j k (by rw [ha]; exact hk), ha]
      show _ = Value.agg #[.int .i64 ((64 * (p - j) : Nat) : Int), .int .i64 ((64 * k : Nat) : Int), .bool true]
      rw [show ((64 * k : Nat) : Int) = (k : Int) * 64 by omega]
/-- Find of the document's own, at any integer. -/
theorem rfind_any (mb : Nat) (F : List Nat) (a : Int) (ws : List Int) (kd : List PK) (w : World) (h : IsRef w mb F ws kd) (hw : WF kd) :
    Calls Tryz.prog 70 #[.pointer (some ⟨mb, 0, none⟩), .int .i64 a] w fun e w' => e = .returned (foundA (findI kd a)) ∧ Keep [] w w' := by
  obtain ⟨L, h⟩ := h
  have hn2 := hw.len2
  obtain ⟨f0, f1, f2, f3, f4⟩ := h.f
  have l0 := h.lt _ f0
  have l2 := h.lt _ f2
  have l3 := h.lt _ f3
  have l4 := h.lt _ f4
  by_cases ha : 0 ≤ a ∧ a < ((64 * kd.length : Nat) : Int)
  · obtain ⟨k, rfl⟩ := Int.eq_ofNat_of_zero_le ha.1
    have e0 : findI kd (k : Int) = findN kd k := by unfold findI; rw [if_neg (by omega), Int.toNat_natCast]
    rw [e0]
    obtain ⟨p, hp⟩ : ∃ p, k / 64 = p := ⟨_, rfl⟩
    have hpl : p < kd.length := by omega
    have h1 : (k : Int) / 64 = p := by omega
    have h2 : (k : Int).tdiv 64 = p := by rw [Int.tdiv_eq_ediv_of_nonneg (by omega)]; exact h1
    by_cases hsm : ∃ c xs, kat kd p = .small c xs
    · obtain ⟨c, xs, hk⟩ := hsm
      obtain ⟨hc, hxl, _⟩ := hw.small p c xs hk
      obtain ⟨z1, z2, z3, z4, z5, z6, z7⟩ := sz_facts c hc
      obtain ⟨y1, y2, y3, y4⟩ := sz_word c k hc
      obtain ⟨r, hr⟩ : ∃ r, k % 64 = r := ⟨_, rfl⟩
      obtain ⟨i, hi⟩ : ∃ i, r / sz c = i := ⟨_, rfl⟩
      rw [hr, hi] at y2 y1
      have q1 : (k : Int) % 64 = r := by omega
      have q2 : (k : Int).tmod 64 = r := by rw [Int.tmod_eq_emod_of_nonneg (by omega)]; exact q1
      have q3 : (r : Int) / (sz c : Nat) = i := by rw [← hi]; rfl
      have q4 : (r : Int).tdiv (sz c : Nat) = i := by rw [Int.tdiv_eq_ediv_of_nonneg (by omega)]; exact q3
      have hck := h.ck hpl
      rw [kindL_get, hk] at hck
      have hct := h.ct hpl
      rw [hk] at hct
      have hR := h.page p c xs hk
      have := rfind_small mb k p kd.length (64 * kd.length) L.gw L.gk L.gt (L.T p) c (sz c) i r xs w ⟨l0, l2, l4, hR.lt⟩ h.c0 h.c1 h.c3 hck hct hR hpl (by omega) (by omega) hc rfl h1 h2 q1 q2 q3 q4 (by omega) (by omega) (by omega) z4
      refine this.mono ?_
      rintro e w' ⟨rfl, hK⟩
      refine ⟨?_, hK⟩
      rw [find_small kd k c xs (by rw [hp]; exact hk), hr, hi]
      cases xs[i]?.getD false
      · rfl
      · rw [if_pos rfl, if_pos rfl, y1, hp]; rfl
    · have hs : ∀ c xs, kat kd p ≠ .small c xs := fun c xs e => hsm ⟨c, xs, e⟩
      obtain ⟨q, g1, g2, g3, g4, g5, g6⟩ := down_facts hw p hs k hp
      have hcm := h.cm (p := q) (by omega)
      rw [bigL_get] at hcm
      rw [← g6]
      exact rfind_down mb k p kd.length (64 * kd.length) L.gw L.gk L.gm (fun t => (kat kd t).kind) (kat kd q).big q w ⟨l0, l2, l3⟩ h.c0 h.c1 h.c2 (fun t ht => by have := h.ck ht; rw [kindL_get] at this; exact this) hcm hpl hn2 (by omega) h1 h2 (kind_small _ hs) g1 g2 g3 ⟨g4, g5⟩
  · have e0 : findI kd a = none := by
      unfold findI
      split
      · rfl
      · exact find_out kd _ (by omega)
    rw [e0]
    exact rfind_out mb L.gw (64 * kd.length) a w h.c0 l0 (by omega)

end Go.Proofs.YtgpidokklhjfdaaGreat

/-
  Each and Used of the document's own space.
-/
namespace Go.Proofs.YtgpidokklhjfdaaGreat
open Go.RowKit

theorem eachTo_bd {kd : List PK} (h : WF kd) (j c t : Nat) (xs : List Bool) (hk : kat kd j = .small c xs) (ht : t ≤ xs.length) : ∀ i : Nat, -9223372036854775808 ≤ (eachTo kd j ++ startsTo j c xs t)[i]?.getD 0 ∧ (eachTo kd j ++ startsTo j c xs t)[i]?.getD 0 ≤ 9223372036854775807 :=
  getD_bd (fun x hx => by
    rcases List.mem_append.1 hx with hx | hx
    · obtain ⟨a, n, rfl, _, h3, _⟩ := h.each_in j x hx; omega
    · obtain ⟨i, hi, _, rfl⟩ := startsTo_mem j c xs t x hx
      obtain ⟨hc, hl, _⟩ := h.small j c xs hk
      have hj := kat_lt kd j (by rw [hk]; simp)
      have := h.len2
      have : i * sz c ≤ 32 * 32 := Nat.mul_le_mul (by have := (sz_facts c hc).2.2.2.2.2.1; omega) (sz_facts c hc).2.2.2.1
      omega)

set_option maxRecDepth 100000 in
set_option maxHeartbeats 8000000 in
theorem reach_at (mb : Nat) (L : RLay) (F : List Nat) (ws : List Int) (kd : List PK) (w : World) (h : RpAt w mb L F ws (kindL kd) (bigL kd) kd) (hw : WF kd) :
    Calls Tryz.prog 48 #[.pointer (some ⟨mb, 0, none⟩)] w fun e w' => ∃ v, e = .returned v ∧ GivesInts w w' v (eachK kd) ∧ Keep [] w w' := by
  obtain ⟨i0, hi, hz0, hz1, hz2⟩ := info_parts Tryz.infoInt
  have hI : Hid (Tryz.prog.info? 3 = some i0 ∧ i0.zero = some (.int .i64 0) ∧ i0.size = 1 ∧ i0.bytes = 8) := ⟨hi, hz0, hz1, hz2⟩
  clear hi hz0 hz1 hz2
  obtain ⟨n, hn⟩ : ∃ n, kd.length = n := ⟨_, rfl⟩
  have HN := (show Hid (kd.length = n) from hn)
  have hn2 : n ≤ 256 := by rw [← hn]; exact hw.len2
  have HW := (show Hid (WF kd) from hw)
  have HM := (show Hid (RpAt w mb L F ws (kindL kd) (bigL kd) kd) from h)
  clear hn hw h
  go_enter Tryz.func48, Tryz.ntmps48
  go_wp2_with fail
  go_loopw [3, 4] (fun v i wr => ∃ (j m : Nat) (vv : Value), vv = v ∧ j ≤ n ∧ i = .int .i64 j ∧ m = (eachTo kd j).length ∧ Hid (wr.ownsRow w.heap.size 3 1 v m (ints (eachTo kd j))) ∧ Keep [] w wr) (fun _ i _ => n - (intOf i).toNat)
  case atStart => exact ⟨0, 0, _, rfl, by omega, rfl, rfl, World.ownsRow_nil _ _ _ _, Keep.refl _ _⟩
  case round =>
    obtain ⟨j, m, v, hvv, hj, rfl, hm, HO, hK⟩ := hrel
    obtain ⟨w2, rfl⟩ : ∃ w2, w2 = wr := ⟨_, rfl⟩
    subst hvv
    have hM2 := HM.out.keep0 hK
    have c1 := hM2.c1
    rw [HN.out] at c1
    by_cases hlt : j < n
    · have c3 := hM2.c3
      rw [HN.out] at c3
      have ck := hM2.ck (p := j) (by rw [HN.out]; exact hlt)
      rw [kindL_get] at ck
      have ct := hM2.ct (p := j) (by rw [HN.out]; exact hlt)
      have hm2 : m ≤ 32 * 256 := by have := HW.out.each_len j; omega
      have HE := (show Hid (eachTo kd (j + 1) = eachTo kd j ++ startsK j (kat kd j)) from eachTo_succ kd j)
      have quiet : (kat kd j).slot (L.T j) = .slice none 0 0 → (kat kd j).kind ≠ 6 → startsK j (kat kd j) = [] → True := fun _ _ _ => trivial
      clear quiet
      by_cases hsm : ∃ c xs, kat kd j = .small c xs
      · obtain ⟨c, xs, hk⟩ := hsm
        obtain ⟨hc, hxl, _⟩ := HW.out.small j c xs hk
        obtain ⟨z1, z2, z3, z4, z5, z6, z7⟩ := sz_facts c hc
        have HK := (show Hid (kat kd j = .small c xs) from hk)
        rw [hk] at ck ct HE
        have hck : w2.cell? ⟨L.gk, j, none⟩ = some (.int .i64 ((c : Int) + 1)) := ck
        have hct : w2.cell? ⟨L.gt, j, none⟩ = some (.slice (some ⟨L.T j, 0, none⟩) xs.length xs.length) := ct
        obtain ⟨s, hs⟩ : ∃ s, sz c = s := ⟨_, rfl⟩
        have HS := (show Hid (sz c = s) from hs)
        have HSL := (show Hid (sizesL[c]?.getD 0 = (s : Nat)) from by show _ = _; rw [← hs]; exact z1)
        rw [hs] at z3 z4
        obtain ⟨xl, hxl2⟩ : ∃ xl, xs.length = xl := ⟨_, rfl⟩
        have HXL := (show Hid (xs.length = xl) from hxl2)
        have hxb : xl ≤ 32 := by omega
        rw [hxl2] at hct
        have hd6 : decide ((c : Int) + 1 = 6) = false := by rw [decide_eq_false_iff_not]; omega
        have HES := (show Hid (eachTo kd (j + 1) = eachTo kd j ++ startsTo j c xs xl) from by
          have := HE.out
          show _ = _
          rw [this, ← HXL.out]; rfl)
        clear ck ct hk hs hxl hxl2 HE hM2 z1 z2 z5 z6 z7
        go_wp2_with fail
        clear c1 c3 hck hct
        go_loopw [3, 5] (fun v i wz => ∃ (t q : Nat) (vv : Value), vv = v ∧ t ≤ xl ∧ i = .int .i64 t ∧ q = (eachTo kd j ++ startsTo j c xs t).length ∧ q ≤ m + t ∧ Hid (wz.ownsRow w.heap.size 3 1 v q (ints (eachTo kd j ++ startsTo j c xs t))) ∧ Keep [] w wz) (fun _ i _ => xl - (intOf i).toNat)
        case atStart => exact ⟨0, m, _, rfl, by omega, rfl, by rw [startsTo_zero, List.append_nil]; exact hm, by omega, by rw [startsTo_zero, List.append_nil]; exact HO, hK⟩
        case round =>
          obtain ⟨t, q, v, hvv, ht, rfl, hq, hqm, HO2, hK2⟩ := hrel
          obtain ⟨w3, rfl⟩ : ∃ w3, w3 = wr := ⟨_, rfl⟩
          subst hvv
          have hM3 := HM.out.keep0 hK2
          have c1 := hM3.c1
          have c3 := hM3.c3
          rw [HN.out] at c1 c3
          have ck : w3.cell? ⟨L.gk, j, none⟩ = some (.int .i64 ((c : Int) + 1)) := by
            have := hM3.ck (p := j) (by rw [HN.out]; exact hlt)
            rw [kindL_get, HK.out] at this; exact this
          have ct : w3.cell? ⟨L.gt, j, none⟩ = some (.slice (some ⟨L.T j, 0, none⟩) xl xl) := by
            have := hM3.ct (p := j) (by rw [HN.out]; exact hlt)
            rw [HK.out] at this
            rw [← HXL.out]; exact this
          by_cases htl : t < xl
          · have cx := (hM3.page j c xs HK.out).cell (i := t) (by rw [HXL.out]; exact htl)
            cases hv : xs[t]?.getD false
            · rw [hv] at cx
              have HST := (show Hid (startsTo j c xs (t + 1) = startsTo j c xs t) from startsTo_no j c xs t hv)
              clear hM3
              go_wp2_with fail
              go_roundw
              case rel => exact ⟨t + 1, q, _, rfl, by omega, by go_num, by rw [HST.out]; exact hq, by omega, by rw [HST.out]; exact HO2, hK2⟩
              case measure => simp [intOf]; omega
            · rw [hv] at cx
              obtain ⟨y, hy⟩ : ∃ y : Nat, t * s = y := ⟨_, rfl⟩
              have hyb : y ≤ 32 * 32 := by rw [← hy]; exact Nat.mul_le_mul (by omega) z4
              have hyi : (t : Int) * (s : Int) = y := by rw [← hy]; exact (Int.natCast_mul t s).symm
              have hyw : IntKind.i64.wrap ((t : Int) * s) = y := by rw [hyi]; exact IntWalk.i64_in _ (by omega)
              obtain ⟨u, hu⟩ : ∃ u : Nat, 64 * j + y = u := ⟨_, rfl⟩
              have hui : (j : Int) * 64 + y = u := by omega
              have hub : u ≤ 20000 := by omega
              have huw : IntKind.i64.wrap ((j : Int) * 64 + y) = u := by rw [hui]; exact IntWalk.i64_in _ (by omega)
              have hjw : IntKind.i64.wrap ((j : Int) * 64) = (j : Int) * 64 := IntWalk.i64_in _ (by omega)
              have hcw : IntKind.i64.wrap ((c : Int) + 1 - 1) = c := by rw [show (c : Int) + 1 - 1 = c by omega]; exact IntWalk.i64_in _ (by omega)
              have HST := (show Hid (eachTo kd j ++ startsTo j c xs (t + 1) = eachTo kd j ++ startsTo j c xs t ++ [(u : Int)]) from by
                show _ = _
                rw [startsTo_yes j c xs t hv, HS.out, hy, hu, List.append_assoc])
              have hsz3 := hK2.size
              have hyw2 : IntKind.i64.wrap (y : Int) = y := IntWalk.i64_in _ (by omega)
              have huw2 : IntKind.i64.wrap (u : Int) = u := IntWalk.i64_in _ (by omega)
              have hcb0 : (0 : Int) ≤ (c : Int) := by omega
              have hcb1 : (c : Int) < 5 := by omega
              have hcb2 : (c : Int) ≤ 5 := by omega
              have hcw2 : IntKind.i64.wrap (c : Int) = c := IntWalk.i64_in _ (by omega)
              have HQq := (show Hid (q = (eachTo kd j ++ startsTo j c xs t).length) from hq)
              have HMm := (show Hid (m = (eachTo kd j).length) from hm)
              clear hv hy hu hM3 hq hm
              go_wp2_with fail
              have hKd := hK2.trans (Keep.drew [] w3)
              have HOd := (show Hid (w3.drew.ownsRow w.heap.size 3 1 v q (ints (eachTo kd j ++ startsTo j c xs t))) from own_keep6 HO2.out (Keep.drew [] w3))
              have hSd : (fun wz => wz.cell? ⟨mb, 1, none⟩ = some (.slice (some ⟨L.gk, 0, none⟩) n n) ∧ wz.cell? ⟨L.gk, j, none⟩ = some (.int .i64 ((c : Int) + 1))) w3.drew := ⟨c1, ck⟩
              refine wp_region_held_drew (S := (fun wz => wz.cell? ⟨mb, 1, none⟩ = some (.slice (some ⟨L.gk, 0, none⟩) n n) ∧ wz.cell? ⟨L.gk, j, none⟩ = some (.int .i64 ((c : Int) + 1)))) (by kernel_rfl) hSd (fun hHeld => ?_)
              refine wpAnyH_take (i := 0) (v := ?_) rfl (by kernel_rfl) (by kernel_rfl) (by kernel_rfl) (fun _ _ _ h => h) (Or.inl ⟨by rfl, ?_⟩) (by assumption) ?_
              rotate_left 1
              · intro w hSw
                (try dsimp only at hSw)
                go_simp
                try with_reducible rfl
              try dsimp only [Act.put]
              refine wpAnyH_take (i := 1) (v := ?_) rfl (by kernel_rfl) (by kernel_rfl) (by kernel_rfl) (fun _ _ _ h => h) (Or.inl ⟨by rfl, ?_⟩) (by assumption) ?_
              rotate_left 1
              · intro w hSw
                (try dsimp only at hSw)
                go_simp
                try with_reducible rfl
              try dsimp only [Act.put]
              refine wpAnyH_take (i := 2) (v := ?_) rfl (by kernel_rfl) (by kernel_rfl) (by kernel_rfl) (fun _ _ _ h => h) (Or.inl ⟨by rfl, ?_⟩) (by assumption) ?_
              rotate_left 1
              · intro w hSw
                (try dsimp only at hSw)
                go_simp
                try with_reducible rfl
              try dsimp only [Act.put]
              refine wpAnyH_take (i := 3) (v := ?_) rfl (by kernel_rfl) (by kernel_rfl) (by kernel_rfl) (fun _ _ _ h => h) (Or.inl ⟨by rfl, ?_⟩) (by assumption) ?_
              rotate_left 1
              · intro w hSw
                (try dsimp only at hSw)
                go_simp
                try with_reducible rfl
              try dsimp only [Act.put]
              refine wpAnyH_take (i := 5) (v := ?_) rfl (by kernel_rfl) (by kernel_rfl) (by kernel_rfl) (fun _ _ _ h => h) (Or.inl ⟨by rfl, ?_⟩) (by assumption) ?_
              rotate_left 1
              · intro w hSw
                (try dsimp only at hSw)
                go_simp
                try with_reducible rfl
              try dsimp only [Act.put]
              refine wpAnyH_take (i := 6) (v := ?_) rfl (by kernel_rfl) (by kernel_rfl) (by kernel_rfl) (fun _ _ _ h => h) (Or.inl ⟨by rfl, ?_⟩) (by assumption) ?_
              rotate_left 1
              · intro w hSw
                (try dsimp only at hSw)
                go_simp
                try with_reducible rfl
              try dsimp only [Act.put]
              refine wpAnyH_take (i := 7) (v := ?_) rfl (by kernel_rfl) (by kernel_rfl) (by kernel_rfl) (fun _ _ _ h => h) (Or.inl ⟨by rfl, ?_⟩) (by assumption) ?_
              rotate_left 1
              · intro w hSw
                (try dsimp only at hSw)
                go_simp
                try with_reducible rfl
              try dsimp only [Act.put]
              refine wpAnyH_take (i := 8) (v := ?_) rfl (by kernel_rfl) (by kernel_rfl) (by kernel_rfl) (fun _ _ _ h => h) (Or.inl ⟨by rfl, ?_⟩) (by assumption) ?_
              rotate_left 1
              · intro w hSw
                (try dsimp only at hSw)
                go_simp
                try with_reducible rfl
              try dsimp only [Act.put]
              refine wpAnyH_take (i := 9) (v := ?_) rfl (by kernel_rfl) (by kernel_rfl) (by kernel_rfl) (fun _ _ _ h => h) (Or.inl ⟨by rfl, ?_⟩) (by assumption) ?_
              rotate_left 1
              · intro w hSw
                (try dsimp only at hSw)
                go_simp
                try with_reducible rfl
              try dsimp only [Act.put]
              refine wpAnyH_take (i := 10) (v := ?_) rfl (by kernel_rfl) (by kernel_rfl) (by kernel_rfl) (fun _ _ _ h => h) (Or.inl ⟨by rfl, ?_⟩) (by assumption) ?_
              rotate_left 1
              · intro w hSw
                (try dsimp only at hSw)
                go_simp
                try with_reducible rfl
              try dsimp only [Act.put]
              refine wpAnyH_take (i := 11) (v := ?_) rfl (by kernel_rfl) (by kernel_rfl) (by kernel_rfl) (fun _ _ _ h => h) (Or.inl ⟨by rfl, ?_⟩) (by assumption) ?_
              rotate_left 1
              · intro w hSw
                (try dsimp only at hSw)
                go_simp
                try with_reducible rfl
              try dsimp only [Act.put]
              refine wpAnyH_take (i := 12) (v := ?_) rfl (by kernel_rfl) (by kernel_rfl) (by kernel_rfl) (fun _ _ _ h => h) (Or.inl ⟨by rfl, ?_⟩) (by assumption) ?_
              rotate_left 1
              · intro w hSw
                (try dsimp only at hSw)
                go_simp
                try with_reducible rfl
              try dsimp only [Act.put]
              refine wpAnyH_ready (rs := [4]) (by kernel_rfl) (by simp) ?_
              refine AllReadyH.cons rfl (fun K hK => ?_) AllReadyH.nil
              go_simp
              refine (rsizes_any _).mono ?_
              rintro e w4 ⟨gz, rfl, hr, hK4, hgz⟩
              have hxz := hr.cell (i := c) hc
              rw [HSL.out] at hxz
              have hK44 := hKd.trans hK4
              have hM4 := HM.out.keep0 hK44
              have hS41 := hM4.c1
              rw [HN.out] at hS41
              have hS42 : w4.cell? ⟨L.gk, j, none⟩ = some (.int .i64 ((c : Int) + 1)) := by
                have := hM4.ck (p := j) (by rw [HN.out]; exact hlt)
                rw [kindL_get, HK.out] at this; exact this
              have hM45 := hM4.keep0 (Keep.alloc [] w4 (.cells #[.int .i64 (u : Int)] 3))
              have hS43 := hM45.c1
              rw [HN.out] at hS43
              have hS44 : (w4.alloc (.cells #[.int .i64 (u : Int)] 3)).cell? ⟨L.gk, j, none⟩ = some (.int .i64 ((c : Int) + 1)) := by
                have := hM45.ck (p := j) (by rw [HN.out]; exact hlt)
                rw [kindL_get, HK.out] at this; exact this
              have HO4 := (show Hid (w4.ownsRow w.heap.size 3 1 v q (ints (eachTo kd j ++ startsTo j c xs t))) from own_keep6 HOd.out hK4)
              have hsz4 := hK44.size
              clear hM4 hM45 hr
              refine hK.out _ _ ⟨hS41, hS42⟩ (fun hHeld => ?_)
              clear hK K
              try dsimp only [Act.put]
              refine wpAnyH_take (i := 13) (v := ?_) rfl (by kernel_rfl) (by kernel_rfl) (by kernel_rfl) (fun _ _ _ h => h) (Or.inl ⟨by rfl, ?_⟩) (by assumption) ?_
              rotate_left 1
              · intro w hSw
                (try dsimp only at hSw)
                go_simp
                try with_reducible rfl
              try dsimp only [Act.put]
              refine wpAnyH_ready (rs := [14]) (by kernel_rfl) (by simp) ?_
              refine AllReadyH.cons rfl (fun K hK => ?_) AllReadyH.nil
              go_simp
              refine hK.out _ _ ⟨hS41, hS42⟩ (fun hHeld => ?_)
              clear hK K
              try dsimp only [Act.put]
              refine wpAnyH_take (i := 15) (v := ?_) rfl (by kernel_rfl) (by kernel_rfl) (by kernel_rfl) (fun _ _ _ h => h) (Or.inl ⟨by rfl, ?_⟩) (by assumption) ?_
              rotate_left 1
              · intro w hSw
                (try dsimp only at hSw)
                go_simp
                try with_reducible rfl
              try dsimp only [Act.put]
              refine wpAnyH_take (i := 16) (v := ?_) rfl (by kernel_rfl) (by kernel_rfl) (by kernel_rfl) (fun _ _ _ h => h) (Or.inl ⟨by rfl, ?_⟩) (by assumption) ?_
              rotate_left 1
              · intro w hSw
                (try dsimp only at hSw)
                go_simp
                try with_reducible rfl
              try dsimp only [Act.put]
              refine wpAnyH_ready (rs := [17]) (by kernel_rfl) (by simp) ?_
              refine AllReadyH.cons rfl (fun K hK => ?_) AllReadyH.nil
              go_simp
              refine hK.out _ _ ⟨hS43, hS44⟩ (fun hHeld => ?_)
              clear hK K
              try dsimp only [Act.put]
              refine wpAnyH_ready (rs := [18]) (by kernel_rfl) (by simp) ?_
              refine AllReadyH.cons rfl (fun K hK => ?_) AllReadyH.nil
              refine step_append_lies _ rfl (.tmp 50) (.tmp 67) 25 rfl w.heap.size 3 i0 (.int .i64 0) 1 8 Tryz.underlying25 hI.out.1 hI.out.2.1 hI.out.2.2.1 hI.out.2.2.2 rfl (by decide) _ q (ints (eachTo kd j ++ startsTo j c xs t)) rfl (HO4.out.alloc _) ⟨w4.heap.size, 0, none⟩ 1 1 (ints [(u : Int)]) rfl rfl (one_cell _ _ _) (ints_one _) (by omega) (by unfold maxLen; omega) (by omega) (by simp; omega) (w4.heap.size + 1) (by simp) ?_
              intro ga ca7 w7 hown7 hgrow7 hblk7 hlt7
              have hK7 : Keep [] w w7 := (hK44.trans (Keep.alloc [] _ _)).grown hgrow7 (own_block HO4.out)
              have hM7 := HM.out.keep0 hK7
              have hS51 := hM7.c1
              rw [HN.out] at hS51
              have hS52 : w7.cell? ⟨L.gk, j, none⟩ = some (.int .i64 ((c : Int) + 1)) := by
                have := hM7.ck (p := j) (by rw [HN.out]; exact hlt)
                rw [kindL_get, HK.out] at this; exact this
              refine hK.out _ _ ⟨hS51, hS52⟩ (fun hHeld => ?_)
              clear hK K
              try dsimp only [Act.put]
              refine wpAnyH_take (i := 19) (v := ?_) rfl (by kernel_rfl) (by kernel_rfl) (by kernel_rfl) (fun _ _ _ h => h) (Or.inl ⟨by rfl, ?_⟩) (by assumption) ?_
              rotate_left 1
              · intro w hSw
                (try dsimp only at hSw)
                go_simp
                try with_reducible rfl
              try dsimp only [Act.put]
              refine wpAnyH_done (by kernel_rfl) ?_ _
              have HO7 := (show Hid (w7.ownsRow w.heap.size 3 1 (.slice (some ⟨ga, 0, none⟩) (q + 1) ca7) (q + 1) (ints (eachTo kd j ++ startsTo j c xs (t + 1)))) from by
                show World.ownsRow _ _ _ _ _ _ _
                rw [HST.out, ← ints_app]; exact hown7)
              have HQ7 := (show Hid (q + 1 = (eachTo kd j ++ startsTo j c xs (t + 1)).length) from by
                show _ = _
                rw [HST.out, List.length_append, ← HQq.out]; rfl)
              clear hown7 hgrow7 hblk7 hlt7 hM7 hS51 hS52 HO4 HOd HO2
              go_wp2_with fail
              go_roundw
              case rel =>
                have hl7 := HQ7.out
                rw [List.length_append] at hl7
                refine ⟨t + 1, by omega, by go_num, by omega, ?_⟩
                rw [← hl7]
                exact HO7
              case measure => simp [intOf]; omega
          · obtain rfl : t = xl := by omega
            have HO8 := (show Hid (w3.ownsRow w.heap.size 3 1 v q (ints (eachTo kd (j + 1)))) from by
              show World.ownsRow _ _ _ _ _ _ _
              rw [HES.out]; exact HO2.out)
            have HQ8 := (show Hid (q = (eachTo kd (j + 1)).length) from by show _ = _; rw [HES.out]; exact hq)
            clear HO2 hM3
            go_wp2_with fail
            go_roundw
            case rel => exact ⟨j + 1, q, _, rfl, by omega, by go_num, HQ8.out, HO8, hK2⟩
            case measure => simp [intOf]; omega
      · have hs : ∀ c xs, kat kd j ≠ .small c xs := fun c xs e => hsm ⟨c, xs, e⟩
        have ct0 : w2.cell? ⟨L.gt, j, none⟩ = some (.slice none 0 0) := by
          cases e : kat kd j with
          | small c xs => exact absurd e (hs c xs)
          | _ => rw [e] at ct; exact ct
        by_cases h6 : (kat kd j).kind = 6
        · have hst : startsK j (kat kd j) = [((64 * j : Nat) : Int)] := by
            cases e : kat kd j with
            | small c xs => exact absurd e (hs c xs)
            | part a b =>
              rw [e] at h6
              cases a with
              | zero => rfl
              | succ a => exact absurd h6 (by show ¬ (7 : Int) = 6; omega)
            | zero => rw [e] at h6; exact absurd h6 (by show ¬ (-1 : Int) = 6; omega)
            | free => rw [e] at h6; exact absurd h6 (by show ¬ (0 : Int) = 6; omega)
          rw [h6] at ck
          rw [hst] at HE
          obtain ⟨u, hu⟩ : ∃ u : Nat, 64 * j = u := ⟨_, rfl⟩
          rw [hu] at HE
          have hui : (j : Int) * 64 = u := by omega
          have hub : u ≤ 20000 := by omega
          clear hst hu h6 ct hs hsm hM2
          go_wp2_with (first | (at_builtin; refine append_ints rfl (.tmp 23) (.tmp 26) 25 rfl w.heap.size 3 i0 Tryz.underlying25 hI.out _ m (eachTo kd j) [(u : Int)] rfl (HO.out.alloc _) (some ⟨w2.heap.size, 0, none⟩) 1 1 rfl rfl (IntsAt.single w2 3 u (by omega) (by omega)) (fun e => by cases e) (by omega) (by have := hK.size; simp; omega) ?_; intro v' w5 hown5 hgrow; have hK5 : Keep [] w w5 := (hK.trans (Keep.alloc [] _ _)).grown hgrow (own_block HO.out); have hM5 := HM.out.keep0 hK5; have c35 := hM5.c3; rw [HN.out] at c35))
          have ct5 : w5.cell? ⟨L.gt, j, none⟩ = some (.slice none 0 0) := by
            have e1 := (HM.out.keep0 hK).ct (p := j) (by rw [HN.out]; exact hlt)
            rw [ct0] at e1
            have e2 := hM5.ct (p := j) (by rw [HN.out]; exact hlt)
            rw [e2]; exact e1.symm
          have HO5 := (show Hid (w5.ownsRow w.heap.size 3 1 v' (m + 1) (ints (eachTo kd (j + 1)))) from by
            show World.ownsRow _ _ _ _ _ _ _
            rw [HE.out]; exact hown5)
          have HQ5 := (show Hid (m + 1 = (eachTo kd (j + 1)).length) from by show _ = _; rw [HE.out, List.length_append, ← hm]; rfl)
          clear hown5 hgrow hM5 HO
          go_loop [3, 5] (fun a i => a = v' ∧ i = .int .i64 0) (fun _ _ => 0)
          case atStart => exact ⟨rfl, rfl⟩
          case round =>
            obtain ⟨rfl, rfl⟩ := hrel
            go_wp2_with fail
            go_roundw
            case rel => exact ⟨j + 1, m + 1, _, rfl, by omega, by go_num, HQ5.out, HO5, hK5⟩
            case measure => simp [intOf]; omega
        · have hst : startsK j (kat kd j) = [] := by
            cases e : kat kd j with
            | small c xs => exact absurd e (hs c xs)
            | part a b =>
              rw [e] at h6
              cases a with
              | zero => exact absurd rfl h6
              | succ a => rfl
            | zero => rfl
            | free => rfl
          generalize (kat kd j).kind = kv at *
          have hkd : decide (kv = 6) = false := by rw [decide_eq_false_iff_not]; exact h6
          rw [hst, List.append_nil] at HE
          clear hst ct hs hsm hM2
          go_wp2_with fail
          go_loop [3, 5] (fun a i => a = v ∧ i = .int .i64 0) (fun _ _ => 0)
          case atStart => exact ⟨rfl, rfl⟩
          case round =>
            obtain ⟨rfl, rfl⟩ := hrel
            go_wp2_with fail
            go_roundw
            case rel => exact ⟨j + 1, m, _, rfl, by omega, by go_num, by rw [HE.out]; exact hm, by rw [HE.out]; exact HO, hK⟩
            case measure => simp [intOf]; omega
    · obtain rfl : j = n := by omega
      have hE : eachTo kd j = eachK kd := by unfold eachK; rw [HN.out]
      have hO := HO.out
      rw [hE] at hO
      obtain ⟨la, lc, rfl, hLA, hIA, hoffA, hlc⟩ := owned_form hO (by unfold eachK; exact HW.out.each_bd _)
      have HG := (show Hid (GivesInts w w2 (.slice la (eachK kd).length lc) (eachK kd)) from ⟨la, lc, rfl, hIA, hlc, hoffA⟩)
      clear hO HO hLA hIA hoffA hlc hE hM2
      go_wp2_with fail
      go_ret
      exact ⟨_, rfl, HG.out, hK⟩
/-- Each of the document's own. -/
theorem reach_any (mb : Nat) (F : List Nat) (ws : List Int) (kd : List PK) (w : World) (h : IsRef w mb F ws kd) (hw : WF kd) :
    Calls Tryz.prog 48 #[.pointer (some ⟨mb, 0, none⟩)] w fun e w' => ∃ v, e = .returned v ∧ GivesInts w w' v (eachK kd) ∧ Keep [] w w' := by
  obtain ⟨L, h⟩ := h; exact reach_at mb L F ws kd w h hw

end Go.Proofs.YtgpidokklhjfdaaGreat

/-
  Used of the document's own space.
-/
namespace Go.Proofs.YtgpidokklhjfdaaGreat
open Go.RowKit

end Go.Proofs.YtgpidokklhjfdaaGreat
