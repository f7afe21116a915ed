/-
  What the calls of a heap answer and leave, whatever is asked: plain facts.
-/
import Derived.Test.YtdpaffnpedcmpabObjM
import Derived.Test.YtdpaffnpedcmpabSpaceAns
namespace Go.Proofs.Ytdpaffnpedcmpab
open Go.RowKit

/-- What its numbers are: every block has an object. -/
structure Fine (ws : List Int) (kd : List PK) (ds : List (Int × List Int)) : Prop where
  wf : WF kd
  ob : OB kd ws ds
  few : ds.length ≤ 256
  len : ws.length = 64 * kd.length

theorem room_ge (n : Int) (h1 : 1 ≤ n) (h2 : n ≤ 1024) : n ≤ blockI n := by
  unfold blockI classI pagesI sizesL
  repeat' split
  all_goals (simp at *; try omega)
theorem class_in {ds : List (Int × List Int)} {c : Int} (h1 : 1 ≤ c) (h2 : c ≤ ds.length) : ∃ (i : Nat) (d : Int × List Int), c = (i : Int) + 1 ∧ ds[i]? = some d := by
  have h3 : (c - 1).toNat < ds.length := by omega
  exact ⟨(c - 1).toNat, ds[(c - 1).toNat], by omega, by simp⟩

/-- Whether a block begins at a. -/
def isAt (kd : List PK) (a : Int) : Bool := match findI kd a with | some (s, _) => (s : Int) == a | none => false
theorem find_nat (kd : List PK) (b : Nat) : findI kd (b : Int) = findN kd b := by unfold findI; rw [if_neg (by omega), Int.toNat_natCast]
theorem isAt_yes {kd : List PK} {ws : List Int} {a k c l : Int} {b m : Nat} {f : Bool} (h : At kd ws a b m k c l f) : isAt kd a = true := by
  obtain ⟨rfl, h1, _⟩ := h
  unfold isAt
  rw [find_nat, h1]
  simp
theorem isAt_no {kd : List PK} {a : Int} (h : NotAt kd a) : isAt kd a = false := by
  unfold isAt
  cases e : findI kd a with
  | none => rfl
  | some o => obtain ⟨s, n⟩ := o; simpa using h s n e

/-- What Head answers. -/
inductive HeadT (kd : List PK) (ws : List Int) (a : Int) : Int → Int → Int → Bool → Int → Prop
  | no : NotAt kd a → HeadT kd ws a 0 0 0 false 2
  | yes (b m : Nat) (k c l : Int) (f : Bool) : At kd ws a b m k c l f → HeadT kd ws a k c l f 0
theorem headT_ex {kd : List PK} {ws : List Int} {ds : List (Int × List Int)} (h : OB kd ws ds) (a : Int) : ∃ k c l f E, HeadT kd ws a k c l f E := by
  rcases at_or h a with ⟨b, m, k, c, l, f, h1, _⟩ | h1
  · exact ⟨_, _, _, _, _, .yes b m k c l f h1⟩
  · exact ⟨_, _, _, _, _, .no h1⟩
theorem Word.bd {x k c l : Int} {f : Bool} (h : Word x k c l f) : 1 ≤ k ∧ k ≤ 4 ∧ 0 ≤ c ∧ c ≤ 256 ∧ 0 ≤ l ∧ l ≤ 1023 := mayH_bd h.1

/-- Where a field lies. -/
inductive PlaceT (kd : List PK) (ws : List Int) (a i : Int) : Nat → Int → Prop
  | none : NotAt kd a → PlaceT kd ws a i 0 2
  | arg (b m : Nat) (k c l : Int) (f : Bool) : At kd ws a b m k c l f → ¬ (0 ≤ i ∧ i < l) → PlaceT kd ws a i 0 1
  | yes (b m j : Nat) (k c l : Int) (f : Bool) : At kd ws a b m k c l f → i = j → (j : Int) < l → l + 1 ≤ m → PlaceT kd ws a i (b + 1 + j) 0
theorem placeT_ex {kd : List PK} {ws : List Int} {ds : List (Int × List Int)} (h : OB kd ws ds) (a i : Int) : ∃ p E, PlaceT kd ws a i p E := by
  rcases at_or h a with ⟨b, m, k, c, l, f, h1, h2, _⟩ | h1
  · by_cases hi : 0 ≤ i ∧ i < l
    · obtain ⟨j, rfl⟩ := Int.eq_ofNat_of_zero_le hi.1
      exact ⟨_, _, .yes b m j k c l f h1 rfl hi.2 h2⟩
    · exact ⟨_, _, .arg b m k c l f h1 hi⟩
  · exact ⟨_, _, .none h1⟩
theorem At.facts {kd : List PK} {ws : List Int} {a k c l : Int} {b m : Nat} {f : Bool} (h : At kd ws a b m k c l f) (hw : WF kd) : a = b ∧ 64 ≤ b ∧ b + m ≤ 64 * kd.length ∧ m ≤ 1024 ∧ 1 ≤ m ∧ kd.length ≤ 256 := by
  obtain ⟨e, h1, _⟩ := h
  obtain ⟨g1, g2, g3, g4, g5, _⟩ := hw.found h1
  exact ⟨e, g3, g4, g5, by omega, hw.len2⟩
/-- What Field answers. -/
inductive FieldT (kd : List PK) (ws : List Int) (a i : Int) : Int → Int → Prop
  | no (E : Int) : PlaceT kd ws a i 0 E → E = 1 ∨ E = 2 → FieldT kd ws a i 0 E
  | yes (p : Nat) : PlaceT kd ws a i p 0 → p < ws.length → FieldT kd ws a i (ws[p]?.getD 0) 0
/-- What Put answers and leaves. -/
inductive PutT (kd : List PK) (ws : List Int) (a i x : Int) : Int → List Int → Prop
  | no (E : Int) : PlaceT kd ws a i 0 E → E = 1 ∨ E = 2 → PutT kd ws a i x E ws
  | yes (p : Nat) : PlaceT kd ws a i p 0 → p < ws.length → PutT kd ws a i x 0 (ws.set p x)
theorem PlaceT.or {kd : List PK} {ws : List Int} {a i E : Int} {p : Nat} (h : PlaceT kd ws a i p E) (hw : WF kd) (hl : ws.length = 64 * kd.length) : (p = 0 ∧ (E = 1 ∨ E = 2)) ∨ (E = 0 ∧ p < ws.length) := by
  cases h with
  | none h => exact .inl ⟨rfl, .inr rfl⟩
  | arg b m k c l f h h' => exact .inl ⟨rfl, .inl rfl⟩
  | yes b m j k c l f h h1 h2 h3 =>
    have := h.facts hw
    exact .inr ⟨rfl, by omega⟩
theorem fieldT_ex {kd : List PK} {ws : List Int} {ds : List (Int × List Int)} (h : Fine ws kd ds) (a i : Int) : ∃ N E, FieldT kd ws a i N E := by
  obtain ⟨p, E, hp⟩ := placeT_ex h.ob a i
  rcases hp.or h.wf h.len with ⟨rfl, e⟩ | ⟨rfl, e⟩
  · exact ⟨_, _, .no E hp e⟩
  · exact ⟨_, _, .yes p hp e⟩
theorem putT_ex {kd : List PK} {ws : List Int} {ds : List (Int × List Int)} (h : Fine ws kd ds) (a i x : Int) : ∃ E ws', PutT kd ws a i x E ws' := by
  obtain ⟨p, E, hp⟩ := placeT_ex h.ob a i
  rcases hp.or h.wf h.len with ⟨rfl, e⟩ | ⟨rfl, e⟩
  · exact ⟨_, _, .no E hp e⟩
  · exact ⟨_, _, .yes p hp e⟩
theorem PutT.fine {kd : List PK} {ws ws' : List Int} {ds : List (Int × List Int)} {a i x E : Int} (h : PutT kd ws a i x E ws') (hf : Fine ws kd ds) (hx : inI x) : Fine ws' kd ds := by
  cases h with
  | no E h _ => exact hf
  | yes p h hp =>
    cases h with
    | yes b m j k c l f h h1 h2 h3 =>
      exact ⟨hf.wf, hf.ob.field hf.wf h.2.1 (by omega) (by omega) x hx, hf.few, by rw [List.length_set]; exact hf.len⟩

/-- What Final answers and leaves. -/
inductive FinalT (kd : List PK) (ws : List Int) (a : Int) : Int → List Int → Prop
  | none : NotAt kd a → FinalT kd ws a 2 ws
  | kind (b m : Nat) (c l : Int) (f : Bool) : At kd ws a b m 4 c l f → FinalT kd ws a 5 ws
  | has (b m : Nat) (k c l : Int) : At kd ws a b m k c l true → k ≠ 4 → FinalT kd ws a 4 ws
  | yes (b m : Nat) (k c l : Int) : At kd ws a b m k c l false → k ≠ 4 → FinalT kd ws a 0 (ws.set b (putH k c l true))
theorem finalT_ex {kd : List PK} {ws : List Int} {ds : List (Int × List Int)} (h : OB kd ws ds) (a : Int) : ∃ E ws', FinalT kd ws a E ws' := by
  rcases at_or h a with ⟨b, m, k, c, l, f, h1, h2, _⟩ | h1
  · by_cases hk : k = 4
    · subst hk; exact ⟨_, _, .kind b m c l f h1⟩
    · cases f
      · exact ⟨_, _, .yes b m k c l h1 hk⟩
      · exact ⟨_, _, .has b m k c l h1 hk⟩
  · exact ⟨_, _, .none h1⟩
theorem may_final {k c l : Int} (h : mayH k c l false = true) (hk : k ≠ 4) : mayH k c l true = true := by
  unfold mayH at *; simp at h ⊢; omega
theorem put_in {k c l : Int} {f : Bool} (h : mayH k c l f = true) : inI (putH k c l f) := by
  have := mayH_bd h
  unfold inI putH
  split <;> omega
theorem FinalT.fine {kd : List PK} {ws ws' : List Int} {ds : List (Int × List Int)} {a E : Int} (h : FinalT kd ws a E ws') (hf : Fine ws kd ds) : Fine ws' kd ds := by
  cases h with
  | none h => exact hf
  | kind b m c l f h => exact hf
  | has b m k c l h hk => exact hf
  | yes b m k c l h hk =>
    obtain ⟨_, e1, e2, e3, e4, e5⟩ := h.facts hf.wf
    have hm := may_final h.2.2.1 hk
    refine ⟨hf.wf, hf.ob.setHead h.2.1 (by have := hf.len; omega) _ ?_ (put_in hm), hf.few, by rw [List.length_set]; exact hf.len⟩
    obtain ⟨k', c', l', f', g1, g2, g3⟩ := hf.ob.head b m h.2.1
    obtain ⟨_, _, p1, p2, p3, p4⟩ := g1.parts
    obtain ⟨_, _, q1, q2, q3, q4⟩ := h.2.2.parts
    obtain rfl : k = k' := by rw [← p1, ← q1]
    obtain rfl : c = c' := by rw [← p2, ← q2]
    obtain rfl : l = l' := by rw [← p3, ← q3]
    exact ⟨k, c, l, true, ⟨hm, rfl⟩, g2, g3⟩

/-- The first numbers. -/
def upL (l : Int) : List Int := (List.range l.toNat).map (fun i : Nat => (i : Int))
theorem upL_length (l : Int) : (upL l).length = l.toNat := by simp [upL]
theorem upL_get (l : Int) (i : Nat) (h : i < l.toNat) : (upL l)[i]?.getD 0 = i := by simp [upL, h]
/-- What Refs answers. -/
inductive RefsT (kd : List PK) (ws : List Int) (ds : List (Int × List Int)) (a : Int) : List Int → Prop
  | none : NotAt kd a → RefsT kd ws ds a []
  | plain (b m i : Nat) (c l : Int) (f : Bool) (L : List Int) : At kd ws a b m 1 c l f → c = (i : Int) + 1 → ds[i]? = some (l, L) → RefsT kd ws ds a L
  | refs (b m : Nat) (c l : Int) (f : Bool) : At kd ws a b m 2 c l f → RefsT kd ws ds a (upL l)
  | data (b m : Nat) (c l : Int) (f : Bool) : At kd ws a b m 3 c l f → RefsT kd ws ds a []
  | ref (b m : Nat) (c l : Int) (f : Bool) : At kd ws a b m 4 c l f → RefsT kd ws ds a [2]
theorem refsT_ex {kd : List PK} {ws : List Int} {ds : List (Int × List Int)} (h : OB kd ws ds) (a : Int) : ∃ L, RefsT kd ws ds a L := by
  rcases at_or h a with ⟨b, m, k, c, l, f, h1, h2, h3⟩ | h1
  · have hb := h1.2.2.bd
    rcases (show k = 1 ∨ k = 2 ∨ k = 3 ∨ k = 4 by omega) with rfl | rfl | rfl | rfl
    · obtain ⟨i, L, e1, e2⟩ := h3 rfl
      exact ⟨_, .plain b m i c l f L h1 e1 e2⟩
    · exact ⟨_, .refs b m c l f h1⟩
    · exact ⟨_, .data b m c l f h1⟩
    · exact ⟨_, .ref b m c l f h1⟩
  · exact ⟨_, .none h1⟩

/-- Whether an object may be made, but for room: the error. -/
inductive FitsT (ds : List (Int × List Int)) (k c l : Int) : Int → Prop
  | other : k ≠ 1 → FitsT ds k c l 0
  | none : k = 1 → c < 1 ∨ (ds.length : Int) < c → FitsT ds k c l 2
  | arg (i : Nat) (n : Int) (L : List Int) : k = 1 → c = (i : Int) + 1 → ds[i]? = some (n, L) → l ≠ n → FitsT ds k c l 1
  | yes (i : Nat) (L : List Int) : k = 1 → c = (i : Int) + 1 → ds[i]? = some (l, L) → FitsT ds k c l 0
theorem fitsT_ex (ds : List (Int × List Int)) (k c l : Int) : ∃ E, FitsT ds k c l E := by
  by_cases hk : k = 1
  · by_cases hc : c < 1 ∨ (ds.length : Int) < c
    · exact ⟨_, .none hk hc⟩
    · obtain ⟨i, ⟨n, L⟩, e1, e2⟩ := class_in (ds := ds) (c := c) (by omega) (by omega)
      by_cases hl : l = n
      · subst hl; exact ⟨_, .yes i L hk e1 e2⟩
      · exact ⟨_, .arg i n L hk e1 e2 hl⟩
  · exact ⟨_, .other hk⟩
theorem FitsT.errs {ds : List (Int × List Int)} {k c l E : Int} (h : FitsT ds k c l E) : E = 0 ∨ E = 1 ∨ E = 2 := by
  cases h <;> simp
/-- What Make answers and leaves. -/
inductive MakeT (kd : List PK) (ws : List Int) (ds : List (Int × List Int)) (k c l : Int) (f : Bool) : Int → Int → List Int → List PK → Prop
  | arg : (mayH k c l f && !f) = false → MakeT kd ws ds k c l f 0 1 ws kd
  | fits (E : Int) : mayH k c l f = true → f = false → FitsT ds k c l E → E ≠ 0 → MakeT kd ws ds k c l f 0 E ws kd
  | full : mayH k c l f = true → f = false → FitsT ds k c l 0 → AllocR kd (l + 1) none → MakeT kd ws ds k c l f 0 3 ws kd
  | yes (a b : Nat) (kd' : List PK) : mayH k c l f = true → f = false → FitsT ds k c l 0 → AllocR kd (l + 1) (some (a, kd')) → blockI (l + 1) = b → MakeT kd ws ds k c l f a 0 ((fill0 ws a b).set a (putH k c l false)) kd'
theorem makeT_ex {kd : List PK} (ws : List Int) (ds : List (Int × List Int)) (k c l : Int) (f : Bool) (hw : WF kd) : ∃ N E ws' kd', MakeT kd ws ds k c l f N E ws' kd' := by
  cases hm : mayH k c l f
  · exact ⟨_, _, _, _, .arg (by rw [hm]; rfl)⟩
  · cases f
    · obtain ⟨E, hE⟩ := fitsT_ex ds k c l
      by_cases e : E = 0
      · subst e
        have hb := mayH_bd hm
        have hg := room_ge (l + 1) (by omega) (by omega)
        obtain ⟨r, hr⟩ := alloc_ex kd (l + 1) (by omega)
        cases r with
        | none => exact ⟨_, _, _, _, .full hm rfl hE hr⟩
        | some r =>
          obtain ⟨a, kd'⟩ := r
          obtain ⟨b, hb', _⟩ := hr.spec hw
          exact ⟨_, _, _, _, .yes a b kd' hm rfl hE hr hb'⟩
      · exact ⟨_, _, _, _, .fits E hm rfl hE e⟩
    · exact ⟨_, _, _, _, .arg (by simp)⟩
theorem MakeT.fine {kd kd' : List PK} {ws ws' : List Int} {ds : List (Int × List Int)} {k c l N E : Int} {f : Bool} (h : MakeT kd ws ds k c l f N E ws' kd') (hf : Fine ws kd ds) : Fine ws' kd' ds ∧ kd'.length = kd.length := by
  cases h with
  | arg h => exact ⟨hf, rfl⟩
  | fits E _ _ _ _ => exact ⟨hf, rfl⟩
  | full _ _ _ _ => exact ⟨hf, rfl⟩
  | yes a b kd' hm e hF hr hb =>
    subst e
    obtain ⟨b', hb', h1, h2, h3, h4, h5, h6, h7⟩ := hr.spec hf.wf
    obtain rfl : b = b' := by rw [hb] at hb'; omega
    have hbd := mayH_bd hm
    have hg := room_ge (l + 1) (by omega) (by omega)
    refine ⟨⟨h2, hf.ob.make hf.wf hf.len hr hb _ ⟨k, c, l, false, ⟨hm, rfl⟩, by omega, fun e => ?_⟩ (put_in hm), hf.few, by rw [List.length_set, fill0_length _ _ _ (by have := hf.len; omega), h3]; exact hf.len⟩, h3⟩
    cases hF with
    | other h => exact absurd e h
    | yes i L _ e1 e2 => exact ⟨i, L, e1, e2⟩
theorem FreeT.fine {kd kd' : List PK} {ws : List Int} {ds : List (Int × List Int)} {a E : Int} (h : FreeT kd a E kd') (hf : Fine ws kd ds) : Fine ws kd' ds := by
  cases h with
  | no h => exact hf
  | yes b m kd' e hF hr => exact ⟨(hr.spec hf.wf hF).1, hf.ob.free hf.wf hF hr, hf.few, by rw [(hr.spec hf.wf hF).2.1]; exact hf.len⟩
theorem Fine.fresh (n : Nat) (h1 : 1 ≤ n) (h2 : n ≤ 256) : Fine (zeros (64 * n)) (freshK n) [] := ⟨freshK_wf n h1 h2, OB.fresh n h1, by simp, by rw [zeros_length, freshK_length]⟩

end Go.Proofs.Ytdpaffnpedcmpab
