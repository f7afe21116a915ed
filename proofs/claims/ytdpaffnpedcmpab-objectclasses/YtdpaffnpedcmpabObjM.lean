/-
  Objects in words: plain facts on pages, words and classes; no program is spoken of but by the numbers of heads.
-/
import Derived.Test.YtdpaffnpedcmpabSpaceM2
import Derived.Test.YtdpaffnpedcmpabSpaceEach
import Derived.Test.YtdpaffnpedcmpabHeadRef
namespace Go.Proofs.Ytdpaffnpedcmpab
open Go.RowKit

def inI (x : Int) : Prop := -9223372036854775808 ≤ x ∧ x ≤ 9223372036854775807

/-- The word x is that of a head that has room in m words, and whose class, if it has one, is there. -/
def HeadOk (ds : List (Int × List Int)) (m : Nat) (x : Int) : Prop := ∃ k c l f, Word x k c l f ∧ l + 1 ≤ m ∧ (k = 1 → ∃ (i : Nat) (L : List Int), c = (i : Int) + 1 ∧ ds[i]? = some (l, L))

/-- Every block has an object; all words are numbers. -/
structure OB (kd : List PK) (ws : List Int) (ds : List (Int × List Int)) : Prop where
  head : ∀ a m, findN kd a = some (a, m) → HeadOk ds m (ws[a]?.getD 0)
  bd : ∀ i : Nat, inI (ws[i]?.getD 0)

theorem inI_0 : inI 0 := by unfold inI; omega
theorem set_bd {ws : List Int} (h : ∀ i : Nat, inI (ws[i]?.getD 0)) (a : Nat) (x : Int) (hx : inI x) : ∀ i : Nat, inI ((ws.set a x)[i]?.getD 0) := by
  intro i
  by_cases e : a = i
  · subst e
    rcases Nat.lt_or_ge a ws.length with hl | hl
    · rw [set_get_same ws a x hl]; exact hx
    · rw [List.getElem?_eq_none (by simpa using hl)]; exact inI_0
  · rw [set_get_other ws a i x e]; exact h i
theorem fill_bd {ws : List Int} (h : ∀ i : Nat, inI (ws[i]?.getD 0)) (a b : Nat) (hl : a + b ≤ ws.length) : ∀ i : Nat, inI ((fill0 ws a b)[i]?.getD 0) := by
  intro i
  rw [fill0_get ws a b i hl]
  split
  · exact inI_0
  · exact h i

theorem HeadOk.more {ds : List (Int × List Int)} {m : Nat} {x : Int} (h : HeadOk ds m x) (d : Int × List Int) : HeadOk (ds ++ [d]) m x := by
  obtain ⟨k, c, l, f, h1, h2, h3⟩ := h
  refine ⟨k, c, l, f, h1, h2, fun e => ?_⟩
  obtain ⟨i, L, e1, e2⟩ := h3 e
  have hi : i < ds.length := by
    rcases Nat.lt_or_ge i ds.length with hi | hi
    · exact hi
    · rw [List.getElem?_eq_none hi] at e2; cases e2
  exact ⟨i, L, e1, by rw [List.getElem?_append_left hi]; exact e2⟩
theorem OB.add {kd : List PK} {ws : List Int} {ds : List (Int × List Int)} (h : OB kd ws ds) (d : Int × List Int) : OB kd ws (ds ++ [d]) := ⟨fun a m e => (h.head a m e).more d, h.bd⟩

theorem OB.fresh (n : Nat) (hn : 1 ≤ n) : OB (freshK n) (zeros (64 * n)) [] :=
  ⟨fun a m e => (by rw [freshK_find n a hn] at e; cases e), fun i => (by rw [zeros_get]; exact inI_0)⟩

/-- Two blocks share no word. -/
theorem WF.apart {kd : List PK} (h : WF kd) {a m b n x : Nat} (ha : findN kd a = some (a, m)) (hb : findN kd b = some (b, n)) (h1 : a ≤ x) (h2 : x < a + m) (h3 : b ≤ x) (h4 : x < b + n) : a = b ∧ m = n := by
  obtain ⟨_, _, _, _, _, e1⟩ := h.found ha
  obtain ⟨_, _, _, _, _, e2⟩ := h.found hb
  have := (e1 x h1 h2).symm.trans (e2 x h3 h4)
  simpa using this

/-- A word that is no head is written. -/
theorem OB.field {kd : List PK} {ws : List Int} {ds : List (Int × List Int)} (h : OB kd ws ds) (hw : WF kd) {a m i : Nat} (ha : findN kd a = some (a, m)) (h1 : a < i) (h2 : i < a + m) (x : Int) (hx : inI x) : OB kd (ws.set i x) ds := by
  refine ⟨fun b n e => ?_, set_bd h.bd i x hx⟩
  rw [set_get_other ws i b x (fun e' => by
    subst e'
    obtain ⟨g1, g2, _⟩ := hw.found e
    obtain ⟨rfl, _⟩ := hw.apart ha e (by omega) h2 g1 g2
    omega)]
  exact h.head b n e
/-- A head is written. -/
theorem OB.setHead {kd : List PK} {ws : List Int} {ds : List (Int × List Int)} (h : OB kd ws ds) {a m : Nat} (ha : findN kd a = some (a, m)) (hl : a < ws.length) (x : Int) (hx : HeadOk ds m x) (hi : inI x) : OB kd (ws.set a x) ds := by
  refine ⟨fun b n e => ?_, set_bd h.bd a x hi⟩
  by_cases hb : a = b
  · subst hb
    rw [set_get_same ws a x hl]
    rw [ha] at e
    cases e
    exact hx
  · rw [set_get_other ws a b x hb]
    exact h.head b n e
/-- A block is made, and its head written. -/
theorem OB.make {kd kd' : List PK} {ws : List Int} {ds : List (Int × List Int)} {n : Int} {a b : Nat} (h : OB kd ws ds) (hw : WF kd) (hl : ws.length = 64 * kd.length) (hr : AllocR kd n (some (a, kd'))) (hb : blockI n = b) (x : Int) (hx : HeadOk ds b x) (hi : inI x) : OB kd' ((fill0 ws a b).set a x) ds := by
  obtain ⟨b', hb', h1, h2, h3, h4, h5, h6, h7⟩ := hr.spec hw
  obtain rfl : b = b' := by rw [hb] at hb'; omega
  have hfl := fill0_length ws a b (by omega)
  refine ⟨fun c m e => ?_, set_bd (fill_bd h.bd a b (by omega)) a x hi⟩
  rw [h7 c] at e
  split at e
  · cases e
    rw [set_get_same _ _ _ (by omega)]
    exact hx
  · have hca : a ≠ c := by omega
    rw [set_get_other _ _ _ _ hca, fill0_get _ _ _ _ (by omega), if_neg (by assumption)]
    exact h.head c m e
/-- A block is freed. -/
theorem OB.free {kd kd' : List PK} {ws : List Int} {ds : List (Int × List Int)} {a m : Nat} (h : OB kd ws ds) (hw : WF kd) (hf : findN kd a = some (a, m)) (hr : FreeR kd a kd') : OB kd' ws ds := by
  obtain ⟨_, _, h3⟩ := hr.spec hw hf
  refine ⟨fun c n e => ?_, h.bd⟩
  rw [h3 c] at e
  split at e
  · cases e
  · exact h.head c n e

/-- An object at a: its head. -/
def At (kd : List PK) (ws : List Int) (a : Int) (b m : Nat) (k c l : Int) (f : Bool) : Prop := a = (b : Int) ∧ findN kd b = some (b, m) ∧ Word (ws[b]?.getD 0) k c l f
/-- No block begins at a. -/
def NotAt (kd : List PK) (a : Int) : Prop := ∀ s n, findI kd a = some (s, n) → (s : Int) ≠ a
theorem at_or {kd : List PK} {ws : List Int} {ds : List (Int × List Int)} (h : OB kd ws ds) (a : Int) : (∃ b m k c l f, At kd ws a b m k c l f ∧ l + 1 ≤ m ∧ (k = 1 → ∃ (i : Nat) (L : List Int), c = (i : Int) + 1 ∧ ds[i]? = some (l, L))) ∨ NotAt kd a := by
  by_cases e : ∃ s n, findI kd a = some (s, n) ∧ (s : Int) = a
  · obtain ⟨s, n, h1, h2⟩ := e
    have h3 : findN kd s = some (s, n) := by
      unfold findI at h1
      rw [if_neg (by omega), ← h2, Int.toNat_natCast] at h1
      exact h1
    obtain ⟨k, c, l, f, g1, g2, g3⟩ := h.head s n h3
    exact .inl ⟨s, n, k, c, l, f, ⟨h2.symm, h3, g1⟩, g2, g3⟩
  · exact .inr (fun s n e1 e2 => e ⟨s, n, e1, e2⟩)

end Go.Proofs.Ytdpaffnpedcmpab
