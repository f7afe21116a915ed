/-
  A space as plain mathematics: what each page is, what is found at a word, what Alloc and Free leave. No memory.
-/
import Derived.Test.YtdpaffnpedcmpabBlock
import Derived.Test.YtdpaffnpedcmpabPages
namespace Go.Proofs.Ytdpaffnpedcmpab
open Go.RowKit

/-- What a page is: page 0, not taken, of a class, or the j-th one of k of a larger block. -/
inductive PK where
  | zero
  | free
  | small (c : Nat) (xs : List Bool)
  | part (j k : Nat)

def PK.taken : PK → Bool
  | .free => false
  | _ => true
def PK.big : PK → Int
  | .part 0 k => k
  | _ => 0
/-- A page of class c that has a block left. -/
def PK.has (c : Nat) : PK → Bool
  | .small d xs => decide (d = c) && !allB xs
  | _ => false
/-- Page p. -/
def kat (kd : List PK) (p : Nat) : PK := kd[p]?.getD .free
theorem kat_out (kd : List PK) (p : Nat) (h : kd.length ≤ p) : kat kd p = .free := by unfold kat; rw [List.getElem?_eq_none h]; rfl
theorem kat_lt (kd : List PK) (p : Nat) (h : kat kd p ≠ .free) : p < kd.length := by
  rcases Nat.lt_or_ge p kd.length with h1 | h1
  · exact h1
  · exact absurd (kat_out kd p h1) h
theorem kat_get (kd : List PK) (p : Nat) (h : p < kd.length) : kd[p]? = some (kat kd p) := by unfold kat; simp [h]
theorem kat_set (kd : List PK) (p q : Nat) (x : PK) (h : p < kd.length) : kat (kd.set p x) q = if q = p then x else kat kd q := by
  unfold kat
  by_cases e : q = p
  · subst e; simp [h]
  · rw [if_neg e, List.getElem?_set_ne (fun e' => e e'.symm)]
theorem kat_set_same (kd : List PK) (p : Nat) (x : PK) (h : p < kd.length) : kat (kd.set p x) p = x := by rw [kat_set kd p p x h, if_pos rfl]
theorem kat_set_other (kd : List PK) (p q : Nat) (x : PK) (h : q ≠ p) : kat (kd.set p x) q = kat kd q := by
  unfold kat; rw [List.getElem?_set_ne (fun e' => h e'.symm)]
theorem kat_ext {kd kd' : List PK} (hl : kd.length = kd'.length) (h : ∀ p, kat kd p = kat kd' p) : kd = kd' := by
  apply List.ext_getElem hl
  intro i h1 h2
  have := h i
  simpa [kat, h1, h2] using this

/-- Of each page: is it taken, how many pages begin there, has it a block of class c left? -/
def takenL (kd : List PK) : List Bool := kd.map PK.taken
def bigL (kd : List PK) : List Int := kd.map PK.big
def hasL (c : Nat) (kd : List PK) : List Bool := kd.map (PK.has c)
theorem takenL_length (kd : List PK) : (takenL kd).length = kd.length := by simp [takenL]
theorem bigL_length (kd : List PK) : (bigL kd).length = kd.length := by simp [bigL]
theorem hasL_length (c : Nat) (kd : List PK) : (hasL c kd).length = kd.length := by simp [hasL]
theorem takenL_get (kd : List PK) (p : Nat) : (takenL kd)[p]?.getD false = (kat kd p).taken := by
  unfold takenL kat
  rcases Nat.lt_or_ge p kd.length with h | h
  · simp [h]
  · rw [List.getElem?_eq_none (by simpa using h), List.getElem?_eq_none h]; rfl
theorem bigL_get (kd : List PK) (p : Nat) : (bigL kd)[p]?.getD 0 = (kat kd p).big := by
  unfold bigL kat
  rcases Nat.lt_or_ge p kd.length with h | h
  · simp [h]
  · rw [List.getElem?_eq_none (by simpa using h), List.getElem?_eq_none h]; rfl
theorem hasL_get (c : Nat) (kd : List PK) (p : Nat) : (hasL c kd)[p]?.getD false = (kat kd p).has c := by
  unfold hasL kat
  rcases Nat.lt_or_ge p kd.length with h | h
  · simp [h]
  · rw [List.getElem?_eq_none (by simpa using h), List.getElem?_eq_none h]; rfl
theorem taken_set (kd : List PK) (p : Nat) (x : PK) : takenL (kd.set p x) = (takenL kd).set p x.taken := by simp [takenL, List.map_set]
theorem big_set (kd : List PK) (p : Nat) (x : PK) : bigL (kd.set p x) = (bigL kd).set p x.big := by simp [bigL, List.map_set]

/-- How many words the blocks of a class have. -/
def sz (c : Nat) : Nat := 2 ^ (c + 1)
theorem sz_facts (c : Nat) (h : c < 5) : wordsOf c = sz c ∧ sz c * roomOf c = 64 ∧ 2 ≤ sz c ∧ sz c ≤ 32 ∧ 2 ≤ roomOf c ∧ roomOf c ≤ 32 ∧ 64 / sz c = roomOf c := by
  rcases (show c = 0 ∨ c = 1 ∨ c = 2 ∨ c = 3 ∨ c = 4 by omega) with rfl | rfl | rfl | rfl | rfl <;> decide
theorem sz_cases (c : Nat) (h : c < 5) : sz c = 2 ∧ roomOf c = 32 ∨ sz c = 4 ∧ roomOf c = 16 ∨ sz c = 8 ∧ roomOf c = 8 ∨ sz c = 16 ∧ roomOf c = 4 ∨ sz c = 32 ∧ roomOf c = 2 := by
  rcases (show c = 0 ∨ c = 1 ∨ c = 2 ∨ c = 3 ∨ c = 4 by omega) with rfl | rfl | rfl | rfl | rfl <;> decide
theorem sz_inj (c d : Nat) (hc : c < 5) (hd : d < 5) (h : sz c = sz d) : c = d := by
  rcases (show c = 0 ∨ c = 1 ∨ c = 2 ∨ c = 3 ∨ c = 4 by omega) with rfl | rfl | rfl | rfl | rfl <;>
  rcases (show d = 0 ∨ d = 1 ∨ d = 2 ∨ d = 3 ∨ d = 4 by omega) with rfl | rfl | rfl | rfl | rfl <;> first | rfl | (exfalso; revert h; decide)
/-- A word of a page, and the block of its class in which it lies. -/
theorem sz_word (c a : Nat) (h : c < 5) : a - a % sz c = 64 * (a / 64) + a % 64 / sz c * sz c ∧ a % 64 / sz c < roomOf c ∧ a % sz c < sz c ∧ a % sz c ≤ a := by
  rcases sz_cases c h with ⟨e, f⟩ | ⟨e, f⟩ | ⟨e, f⟩ | ⟨e, f⟩ | ⟨e, f⟩ <;> rw [e, f] <;> omega

/-- What pages may be beside one another. -/
structure WF (kd : List PK) : Prop where
  len1 : 1 ≤ kd.length
  len2 : kd.length ≤ 256
  zero : kat kd 0 = .zero
  only : ∀ p, kat kd p = .zero → p = 0
  small : ∀ p c xs, kat kd p = .small c xs → c < 5 ∧ xs.length = roomOf c ∧ ∃ i : Nat, xs[i]?.getD false = true
  part : ∀ p j k, kat kd p = .part j k → j < k ∧ k ≤ 16 ∧ j ≤ p ∧ ∀ i, i < k → kat kd (p - j + i) = .part i k

/-- The block in which word a lies: where it begins, how many words it has. -/
def findN (kd : List PK) (a : Nat) : Option (Nat × Nat) :=
  match kat kd (a / 64) with
  | .small c xs => if xs[a % 64 / sz c]?.getD false = true then some (a - a % sz c, sz c) else none
  | .part j k => some (64 * (a / 64 - j), 64 * k)
  | _ => none
theorem find_small (kd : List PK) (a c : Nat) (xs : List Bool) (h : kat kd (a / 64) = .small c xs) : findN kd a = if xs[a % 64 / sz c]?.getD false = true then some (a - a % sz c, sz c) else none := by
  unfold findN; rw [h]
theorem find_part (kd : List PK) (a j k : Nat) (h : kat kd (a / 64) = .part j k) : findN kd a = some (64 * (a / 64 - j), 64 * k) := by unfold findN; rw [h]
theorem find_free (kd : List PK) (a : Nat) (h : kat kd (a / 64) = .free) : findN kd a = none := by unfold findN; rw [h]
theorem find_zero (kd : List PK) (a : Nat) (h : kat kd (a / 64) = .zero) : findN kd a = none := by unfold findN; rw [h]
theorem find_out (kd : List PK) (a : Nat) (h : 64 * kd.length ≤ a) : findN kd a = none := find_free kd a (kat_out kd _ (by omega))
/-- What is found at any integer. -/
def findI (kd : List PK) (a : Int) : Option (Nat × Nat) := if a < 0 then none else findN kd a.toNat

/-- k pages from p on are a larger block; are not taken. -/
def putParts (kd : List PK) (p k : Nat) : List PK := kd.mapIdx (fun i x => if p ≤ i ∧ i < p + k then .part (i - p) k else x)
def freeParts (kd : List PK) (p k : Nat) : List PK := kd.mapIdx (fun i x => if p ≤ i ∧ i < p + k then .free else x)
theorem putParts_length (kd : List PK) (p k : Nat) : (putParts kd p k).length = kd.length := by simp [putParts]
theorem freeParts_length (kd : List PK) (p k : Nat) : (freeParts kd p k).length = kd.length := by simp [freeParts]
theorem putParts_at (kd : List PK) (p k q : Nat) (h : p + k ≤ kd.length) : kat (putParts kd p k) q = if p ≤ q ∧ q < p + k then .part (q - p) k else kat kd q := by
  unfold putParts kat
  rw [List.getElem?_mapIdx]
  rcases Nat.lt_or_ge q kd.length with hq | hq
  · simp [hq]
  · rw [List.getElem?_eq_none hq, if_neg (by omega)]; rfl
theorem freeParts_at (kd : List PK) (p k q : Nat) : kat (freeParts kd p k) q = if p ≤ q ∧ q < p + k then .free else kat kd q := by
  unfold freeParts kat
  rw [List.getElem?_mapIdx]
  rcases Nat.lt_or_ge q kd.length with hq | hq
  · simp [hq]
  · rw [List.getElem?_eq_none hq]; simp
theorem taken_put (kd : List PK) (p k : Nat) (h : p + k ≤ kd.length) : takenL (putParts kd p k) = putR (takenL kd) p k true := by
  refine beq_of_getD (by rw [putR_length, takenL_length, takenL_length, putParts_length]) (fun t => ?_)
  rw [putR_get _ _ _ _ (by rw [takenL_length]; exact h), takenL_get, takenL_get, putParts_at _ _ _ _ h]
  split <;> rfl
theorem taken_free (kd : List PK) (p k : Nat) (h : p + k ≤ kd.length) : takenL (freeParts kd p k) = putR (takenL kd) p k false := by
  refine beq_of_getD (by rw [putR_length, takenL_length, takenL_length, freeParts_length]) (fun t => ?_)
  rw [putR_get _ _ _ _ (by rw [takenL_length]; exact h), takenL_get, takenL_get, freeParts_at]
  split <;> rfl
theorem clear_free {kd : List PK} {p k : Nat} (h : Clear (takenL kd) p k) : p + k ≤ kd.length ∧ ∀ q, p ≤ q → q < p + k → kat kd q = .free := by
  have h1 := h.1
  rw [takenL_length] at h1
  refine ⟨h1, fun q a b => ?_⟩
  have := h.2 q a b
  rw [takenL_get] at this
  cases e : kat kd q <;> rw [e] at this <;> first | rfl | cases this
theorem big_put (kd : List PK) (p k : Nat) (hk : 1 ≤ k) (h : Clear (takenL kd) p k) : bigL (putParts kd p k) = (bigL kd).set p k := by
  obtain ⟨hl, hf⟩ := clear_free h
  refine eq_of_getD (by simp [bigL, putParts]) (fun t => ?_)
  rw [bigL_get, putParts_at _ _ _ _ hl]
  by_cases e : t = p
  · subst e; rw [if_pos (by omega), set_get_same _ _ _ (by rw [bigL_length]; omega), Nat.sub_self]; rfl
  · rw [set_get_other _ _ _ _ (fun e' => e e'.symm), bigL_get]
    by_cases e2 : p ≤ t ∧ t < p + k
    · rw [if_pos e2, hf t e2.1 e2.2]
      obtain ⟨m, hm⟩ : ∃ m, t - p = m + 1 := ⟨t - p - 1, by omega⟩
      rw [hm]; rfl
    · rw [if_neg e2]
theorem big_free (kd : List PK) (p k : Nat) (hk : 1 ≤ k) (h : ∀ i, i < k → kat kd (p + i) = .part i k) : bigL (freeParts kd p k) = (bigL kd).set p 0 := by
  have hl : p < kd.length := kat_lt kd p (by have := h 0 (by omega); rw [Nat.add_zero] at this; rw [this]; simp)
  refine eq_of_getD (by simp [bigL, freeParts]) (fun t => ?_)
  rw [bigL_get, freeParts_at]
  by_cases e : t = p
  · subst e; rw [if_pos (by omega), set_get_same _ _ _ (by rw [bigL_length]; omega)]; rfl
  · rw [set_get_other _ _ _ _ (fun e' => e e'.symm), bigL_get]
    by_cases e2 : p ≤ t ∧ t < p + k
    · rw [if_pos e2]
      have := h (t - p) (by omega)
      rw [show p + (t - p) = t by omega] at this
      obtain ⟨m, hm⟩ : ∃ m, t - p = m + 1 := ⟨t - p - 1, by omega⟩
      rw [this, hm]; rfl
    · rw [if_neg e2]

/-- What Alloc of n answers and leaves, where n may be. -/
inductive AllocR (kd : List PK) (n : Int) : Option (Nat × List PK) → Prop
  | old (c p i : Nat) (xs : List Bool) : classI n = c → nextR (hasL c kd) 0 true = p → kat kd p = .small c xs → nextR xs 0 false = i → i < xs.length → AllocR kd n (some (64 * p + i * sz c, kd.set p (.small c (xs.set i true))))
  | new (c p : Nat) : classI n = c → nextR (hasL c kd) 0 true = -1 → runR (takenL kd) 0 1 = p → AllocR kd n (some (64 * p, kd.set p (.small c ((offs (roomOf c)).set 0 true))))
  | full (c : Nat) : classI n = c → nextR (hasL c kd) 0 true = -1 → runR (takenL kd) 0 1 = -1 → AllocR kd n none
  | large (k p : Nat) : classI n = -1 → pagesI n = k → 1 ≤ k → runR (takenL kd) 0 k = p → AllocR kd n (some (64 * p, putParts kd p k))
  | over (k : Nat) : classI n = -1 → pagesI n = k → 1 ≤ k → runR (takenL kd) 0 k = -1 → AllocR kd n none
theorem has_small (c : Nat) (x : PK) (h : x.has c = true) : ∃ (xs : List Bool) (i : Nat), x = .small c xs ∧ nextR xs 0 false = i ∧ i < xs.length := by
  cases x with
  | small d xs =>
    simp only [PK.has, Bool.and_eq_true, decide_eq_true_eq, Bool.not_eq_true'] at h
    obtain ⟨rfl, h2⟩ := h
    unfold allB at h2
    rcases nextR_spec xs false _ 0 rfl with ⟨h1, _⟩ | ⟨j, h1, _, h3, _⟩
    · rw [h1] at h2; simp at h2
    · exact ⟨xs, j, rfl, h1, h3⟩
  | _ => cases h
theorem alloc_ex (kd : List PK) (n : Int) (h : blockI n ≠ 0) : ∃ r, AllocR kd n r := by
  rcases class_lt n with hc | ⟨c, hc, _⟩
  · have hk := block_none n hc
    obtain ⟨k, hk2⟩ := Int.eq_ofNat_of_zero_le (pages_le n).1
    have hk1 : 1 ≤ k := by rw [hk2] at hk; omega
    rcases runR_spec (takenL kd) k hk1 _ 0 rfl with ⟨hr, _⟩ | ⟨p, hr, _⟩
    · exact ⟨_, .over k hc hk2 hk1 hr⟩
    · exact ⟨_, .large k p hc hk2 hk1 hr⟩
  · rcases nextR_spec (hasL c kd) true _ 0 rfl with ⟨hn, _⟩ | ⟨p, hn, _, hl, hv, _⟩
    · rcases runR_spec (takenL kd) 1 (by omega) _ 0 rfl with ⟨hr, _⟩ | ⟨p, hr, _⟩
      · exact ⟨_, .full c hc hn hr⟩
      · exact ⟨_, .new c p hc hn hr⟩
    · rw [hasL_get] at hv
      obtain ⟨xs, i, e1, e2, e3⟩ := has_small c _ hv
      exact ⟨_, .old c p i xs hc hn e1 e2 e3⟩
/-- What Free of a leaves, where a block begins there. -/
inductive FreeR (kd : List PK) (a : Nat) : List PK → Prop
  | one (c : Nat) (xs : List Bool) : kat kd (a / 64) = .small c xs → xs[a % 64 / sz c]?.getD false = true → a % sz c = 0 → noneB (xs.set (a % 64 / sz c) false) = false → FreeR kd a (kd.set (a / 64) (.small c (xs.set (a % 64 / sz c) false)))
  | last (c : Nat) (xs : List Bool) : kat kd (a / 64) = .small c xs → xs[a % 64 / sz c]?.getD false = true → a % sz c = 0 → noneB (xs.set (a % 64 / sz c) false) = true → FreeR kd a (kd.set (a / 64) .free)
  | large (k : Nat) : kat kd (a / 64) = .part 0 k → a % 64 = 0 → FreeR kd a (freeParts kd (a / 64) k)

theorem WF.part0 {kd : List PK} (h : WF kd) {p j k : Nat} (e : kat kd p = .part j k) : 1 ≤ p - j ∧ p - j + k ≤ kd.length ∧ p < kd.length := by
  obtain ⟨h1, h2, h3, h4⟩ := h.part p j k e
  refine ⟨?_, ?_, kat_lt kd p (by rw [e]; simp)⟩
  · rcases Nat.eq_zero_or_pos (p - j) with e0 | e0
    · have := h4 0 (by omega)
      rw [e0, h.zero] at this; cases this
    · exact e0
  · have := kat_lt kd (p - j + (k - 1)) (by rw [h4 (k - 1) (by omega)]; simp)
    omega
/-- What is found: it holds the word, lies behind page 0, and each of its words finds it. -/
theorem WF.found {kd : List PK} (h : WF kd) {a s n : Nat} (e : findN kd a = some (s, n)) : s ≤ a ∧ a < s + n ∧ 64 ≤ s ∧ s + n ≤ 64 * kd.length ∧ n ≤ 1024 ∧ ∀ x, s ≤ x → x < s + n → findN kd x = some (s, n) := by
  cases hk : kat kd (a / 64) with
  | zero => rw [find_zero kd a hk] at e; cases e
  | free => rw [find_free kd a hk] at e; cases e
  | small c xs =>
    obtain ⟨hc, hl, _⟩ := h.small _ c xs hk
    have hp := kat_lt kd (a / 64) (by rw [hk]; simp)
    have hp0 : a / 64 ≠ 0 := by intro e0; rw [e0, h.zero] at hk; cases hk
    rw [find_small kd a c xs hk] at e
    split at e
    · rename_i hx
      cases e
      refine ⟨?_, ?_, ?_, ?_, ?_, fun x h1 h2 => ?_⟩
      · omega
      · rcases sz_cases c hc with ⟨e, f⟩ | ⟨e, f⟩ | ⟨e, f⟩ | ⟨e, f⟩ | ⟨e, f⟩ <;> rw [e] <;> omega
      · rcases sz_cases c hc with ⟨e, f⟩ | ⟨e, f⟩ | ⟨e, f⟩ | ⟨e, f⟩ | ⟨e, f⟩ <;> rw [e] <;> omega
      · rcases sz_cases c hc with ⟨e, f⟩ | ⟨e, f⟩ | ⟨e, f⟩ | ⟨e, f⟩ | ⟨e, f⟩ <;> rw [e] <;> omega
      · rcases sz_cases c hc with ⟨e, f⟩ | ⟨e, f⟩ | ⟨e, f⟩ | ⟨e, f⟩ | ⟨e, f⟩ <;> rw [e] <;> omega
      · have e1 : x / 64 = a / 64 ∧ x % 64 / sz c = a % 64 / sz c ∧ x - x % sz c = a - a % sz c := by
          rcases sz_cases c hc with ⟨e, f⟩ | ⟨e, f⟩ | ⟨e, f⟩ | ⟨e, f⟩ | ⟨e, f⟩ <;> rw [e] at h1 h2 ⊢ <;> omega
        obtain ⟨e1, e2, e3⟩ := e1
        rw [find_small kd x c xs (by rw [e1]; exact hk), e2, if_pos hx, e3]
    · cases e
  | part j k =>
    obtain ⟨h1, h2, h3, h4⟩ := h.part _ j k hk
    obtain ⟨q1, q2, q3⟩ := h.part0 hk
    rw [find_part kd a j k hk] at e
    cases e
    refine ⟨by omega, by omega, by omega, by omega, by omega, fun x g1 g2 => ?_⟩
    have := h4 (x / 64 - (a / 64 - j)) (by omega)
    rw [show a / 64 - j + (x / 64 - (a / 64 - j)) = x / 64 by omega] at this
    rw [find_part kd x _ k this]
    congr 2; omega

/-- A new space. -/
def freshK (n : Nat) : List PK := (List.replicate n PK.free).set 0 .zero
theorem freshK_length (n : Nat) : (freshK n).length = n := by simp [freshK]
theorem freshK_at (n p : Nat) (h : 1 ≤ n) : kat (freshK n) p = if p = 0 then .zero else .free := by
  unfold freshK
  rw [kat_set _ _ _ _ (by simp; omega)]
  split
  · rfl
  · unfold kat; rw [List.getElem?_replicate]; split <;> rfl
theorem freshK_wf (n : Nat) (h1 : 1 ≤ n) (h2 : n ≤ 256) : WF (freshK n) := by
  refine ⟨by rw [freshK_length]; exact h1, by rw [freshK_length]; exact h2, by rw [freshK_at n 0 h1]; rfl, fun p e => ?_, fun p c xs e => ?_, fun p j k e => ?_⟩
  all_goals
    rw [freshK_at n p h1] at e
    split at e
    · first | assumption | cases e
    · cases e
theorem freshK_find (n a : Nat) (h : 1 ≤ n) : findN (freshK n) a = none := by
  have := freshK_at n (a / 64) h
  by_cases e : a / 64 = 0
  · exact find_zero _ _ (by rw [this, if_pos e])
  · exact find_free _ _ (by rw [this, if_neg e])
theorem freshK_taken (n : Nat) (h : 1 ≤ n) : takenL (freshK n) = fresh n := by
  refine beq_of_getD (by rw [takenL_length, freshK_length, fresh_length]) (fun t => ?_)
  rw [takenL_get, freshK_at n t h, fresh_get n t h]
  by_cases e : t = 0 <;> simp [e, PK.taken]
theorem freshK_has (n c p : Nat) (h : 1 ≤ n) : (kat (freshK n) p).has c = false := by
  rw [freshK_at n p h]; split <;> rfl
theorem freshK_big (n : Nat) (h : 1 ≤ n) : bigL (freshK n) = zeros n := by
  refine eq_of_getD (by rw [bigL_length, freshK_length, zeros_length]) (fun t => ?_)
  rw [bigL_get, freshK_at n t h, zeros_get]; split <;> rfl
/-- Where nothing is found, all is as new. -/
theorem WF.is_fresh {kd : List PK} (h : WF kd) (hn : ∀ a, findN kd a = none) : kd = freshK kd.length := by
  refine kat_ext (by rw [freshK_length]) (fun p => ?_)
  rw [freshK_at _ _ h.len1]
  by_cases e : p = 0
  · subst e; rw [if_pos rfl]; exact h.zero
  · rw [if_neg e]
    cases hk : kat kd p with
    | zero => exact absurd (h.only p hk) e
    | free => rfl
    | small c xs =>
      obtain ⟨hc, hl, i, hi⟩ := h.small p c xs hk
      have hil : i < xs.length := by
        rcases Nat.lt_or_ge i xs.length with h1 | h1
        · exact h1
        · rw [List.getElem?_eq_none h1] at hi; cases hi
      have e1 : (64 * p + i * sz c) / 64 = p ∧ (64 * p + i * sz c) % 64 / sz c = i := by
        rw [hl] at hil
        rcases sz_cases c hc with ⟨e, f⟩ | ⟨e, f⟩ | ⟨e, f⟩ | ⟨e, f⟩ | ⟨e, f⟩ <;> rw [e] <;> rw [f] at hil <;> omega
      have := hn (64 * p + i * sz c)
      rw [find_small kd _ c xs (by rw [e1.1]; exact hk), e1.2, if_pos hi] at this
      cases this
    | part j k =>
      have := hn (64 * p)
      rw [find_part kd _ j k (by rw [show 64 * p / 64 = p by omega]; exact hk)] at this
      cases this

end Go.Proofs.Ytdpaffnpedcmpab
