/-
  What Alloc and Free leave, told by what is found. Plain mathematics.
-/
import Derived.Test.YtdpaffnpedcmpabSpaceM
namespace Go.Proofs.Ytdpaffnpedcmpab
open Go.RowKit

theorem kat_ne0 {kd : List PK} (h : WF kd) {p : Nat} (e : kat kd p ≠ .zero) : p ≠ 0 := by
  rintro rfl; exact e h.zero
/-- A page of a class is turned. -/
theorem WF.set_small {kd : List PK} (h : WF kd) {p c : Nat} {ys : List Bool} (hp : p < kd.length) (hk : kat kd p = .free ∨ ∃ d xs, kat kd p = .small d xs) (hc : c < 5) (hl : ys.length = roomOf c) (hy : ∃ i : Nat, ys[i]?.getD false = true) : WF (kd.set p (.small c ys)) := by
  have hp0 : p ≠ 0 := kat_ne0 h (by rcases hk with e | ⟨d, xs, e⟩ <;> rw [e] <;> simp)
  have hnp : ∀ j k, kat kd p ≠ .part j k := by intro j k e; rcases hk with e' | ⟨d, xs, e'⟩ <;> rw [e'] at e <;> cases e
  refine ⟨by simpa using h.len1, by simpa using h.len2, by rw [kat_set_other _ _ _ _ (fun e => hp0 e.symm)]; exact h.zero, fun q e => ?_, fun q d zs e => ?_, fun q j k e => ?_⟩
  · rw [kat_set _ _ _ _ hp] at e
    split at e
    · cases e
    · exact h.only q e
  · rw [kat_set _ _ _ _ hp] at e
    split at e
    · cases e; exact ⟨hc, hl, hy⟩
    · exact h.small q d zs e
  · rw [kat_set _ _ _ _ hp] at e
    split at e
    · cases e
    · obtain ⟨h1, h2, h3, h4⟩ := h.part q j k e
      refine ⟨h1, h2, h3, fun i hi => ?_⟩
      rw [kat_set_other _ _ _ _ (fun e' => hnp i k (by rw [← e']; exact h4 i hi))]
      exact h4 i hi
theorem WF.set_free {kd : List PK} (h : WF kd) {p c : Nat} {xs : List Bool} (hk : kat kd p = .small c xs) : WF (kd.set p .free) := by
  have hp := kat_lt kd p (by rw [hk]; simp)
  have hp0 : p ≠ 0 := kat_ne0 h (by rw [hk]; simp)
  refine ⟨by simpa using h.len1, by simpa using h.len2, by rw [kat_set_other _ _ _ _ (fun e => hp0 e.symm)]; exact h.zero, fun q e => ?_, fun q d zs e => ?_, fun q j k e => ?_⟩
  all_goals
    rw [kat_set _ _ _ _ hp] at e
    split at e
    · cases e
  · exact h.only q e
  · exact h.small q d zs e
  · obtain ⟨h1, h2, h3, h4⟩ := h.part q j k e
    refine ⟨h1, h2, h3, fun i hi => ?_⟩
    rw [kat_set_other _ _ _ _ (fun e' => by have := h4 i hi; rw [e', hk] at this; cases this)]
    exact h4 i hi
theorem WF.put {kd : List PK} (h : WF kd) {p k : Nat} (hk1 : 1 ≤ k) (hk : k ≤ 16) (hcl : Clear (takenL kd) p k) : WF (putParts kd p k) := by
  obtain ⟨hl, hf⟩ := clear_free hcl
  have hp0 : p ≠ 0 := kat_ne0 h (by rw [hf p (by omega) (by omega)]; simp)
  refine ⟨by rw [putParts_length]; exact h.len1, by rw [putParts_length]; exact h.len2, by rw [putParts_at _ _ _ _ hl, if_neg (by omega)]; exact h.zero, fun q e => ?_, fun q d zs e => ?_, fun q j m e => ?_⟩
  all_goals rw [putParts_at _ _ _ _ hl] at e
  · split at e
    · cases e
    · exact h.only q e
  · split at e
    · cases e
    · exact h.small q d zs e
  · split at e
    · rename_i hq
      cases e
      refine ⟨by omega, hk, by omega, fun i hi => ?_⟩
      rw [putParts_at _ _ _ _ hl, if_pos (by omega)]
      congr 1; omega
    · obtain ⟨h1, h2, h3, h4⟩ := h.part q j m e
      refine ⟨h1, h2, h3, fun i hi => ?_⟩
      rw [putParts_at _ _ _ _ hl, if_neg ?_]
      · exact h4 i hi
      · intro hq
        have := hf _ hq.1 hq.2
        rw [h4 i hi] at this; cases this
theorem WF.unput {kd : List PK} (h : WF kd) {p k : Nat} (hk : kat kd p = .part 0 k) : WF (freeParts kd p k) := by
  obtain ⟨g1, g2, g3, g4⟩ := h.part p 0 k hk
  have hp0 := (h.part0 hk).1
  rw [Nat.sub_zero] at g4 hp0
  refine ⟨by rw [freeParts_length]; exact h.len1, by rw [freeParts_length]; exact h.len2, by rw [freeParts_at, if_neg (by omega)]; exact h.zero, fun q e => ?_, fun q d zs e => ?_, fun q j m e => ?_⟩
  all_goals
    rw [freeParts_at] at e
    split at e
    · cases e
  · exact h.only q e
  · exact h.small q d zs e
  · rename_i hq
    obtain ⟨h1, h2, h3, h4⟩ := h.part q j m e
    refine ⟨h1, h2, h3, fun i hi => ?_⟩
    rw [freeParts_at, if_neg ?_]
    · exact h4 i hi
    · intro hr
      -- page q - j + i is of both: then both are one
      have e1 := h4 i hi
      have e2 := g4 (q - j + i - p) (by omega)
      rw [show p + (q - j + i - p) = q - j + i by omega, e1] at e2
      have e3 : i = q - j + i - p ∧ m = k := by simpa using e2
      exact hq (by omega)

theorem run_clear {ts : List Bool} {k p : Nat} (hk : 1 ≤ k) (h : runR ts 0 k = p) : Clear ts p k := by
  rcases runR_spec ts k hk _ 0 rfl with ⟨e, _⟩ | ⟨j, e, _, e2, _⟩
  · rw [h] at e; omega
  · obtain rfl : p = j := by rw [h] at e; omega
    exact e2

/-- What Alloc leaves. -/
theorem AllocR.spec {kd kd' : List PK} {n : Int} {a : Nat} (h : WF kd) (hr : AllocR kd n (some (a, kd'))) : ∃ b : Nat, blockI n = b ∧ 1 ≤ b ∧ WF kd' ∧ kd'.length = kd.length ∧ 64 ≤ a ∧ a + b ≤ 64 * kd.length ∧
    (∀ x, a ≤ x → x < a + b → findN kd x = none) ∧ ∀ x, findN kd' x = if a ≤ x ∧ x < a + b then some (a, b) else findN kd x := by
  cases hr with
  | old c p i xs h1 h2 h3 h4 h5 =>
    obtain ⟨hc, hl, _⟩ := h.small p c xs h3
    have hp := kat_lt kd p (by rw [h3]; simp)
    have hp0 : p ≠ 0 := kat_ne0 h (by rw [h3]; simp)
    obtain ⟨z1, z2, z3, z4, z5, z6, z7⟩ := sz_facts c hc
    have hi : xs[i]?.getD false = false := by
      rcases nextR_spec xs false _ 0 rfl with ⟨e, _⟩ | ⟨j, e, _, _, e3, _⟩
      · rw [h4] at e; omega
      · obtain rfl : i = j := by rw [h4] at e; omega
        exact e3
    have key : ∀ x, x / 64 = p → ((64 * p + i * sz c ≤ x ∧ x < 64 * p + i * sz c + sz c) ↔ x % 64 / sz c = i) ∧ (x % 64 / sz c = i → x - x % sz c = 64 * p + i * sz c) := by
      intro x hx
      rw [hl] at h5
      rcases sz_cases c hc with ⟨e, f⟩ | ⟨e, f⟩ | ⟨e, f⟩ | ⟨e, f⟩ | ⟨e, f⟩ <;> rw [e] <;> rw [f] at h5 <;> omega
    have key2 : ∀ x, 64 * p + i * sz c ≤ x → x < 64 * p + i * sz c + sz c → x / 64 = p := by
      intro x a b
      rw [hl] at h5
      rcases sz_cases c hc with ⟨e, f⟩ | ⟨e, f⟩ | ⟨e, f⟩ | ⟨e, f⟩ | ⟨e, f⟩ <;> rw [e] at a b <;> rw [f] at h5 <;> omega
    have hmul : i * sz c + sz c ≤ 64 := by
      rw [hl] at h5
      rcases sz_cases c hc with ⟨e, f⟩ | ⟨e, f⟩ | ⟨e, f⟩ | ⟨e, f⟩ | ⟨e, f⟩ <;> rw [e] <;> rw [f] at h5 <;> omega
    refine ⟨sz c, by rw [block_class n c h1]; exact (sz_facts c hc).1, by omega, h.set_small hp (.inr ⟨c, xs, h3⟩) hc (by rw [List.length_set]; exact hl) ⟨i, by rw [bset_same _ _ _ h5]⟩, by simp, by omega, by omega, fun x g1 g2 => ?_, fun x => ?_⟩
    · have e := key2 x g1 g2
      rw [find_small kd x c xs (by rw [e]; exact h3), ((key x e).1.1 ⟨g1, g2⟩), hi]; rfl
    · by_cases e : x / 64 = p
      · rw [find_small _ x c (xs.set i true) (by rw [e]; exact kat_set_same _ _ _ hp)]
        by_cases e2 : x % 64 / sz c = i
        · rw [e2, bset_same _ _ _ h5, if_pos rfl, if_pos ((key x e).1.2 e2), (key x e).2 e2]
        · rw [bset_other _ _ _ _ (fun e' => e2 e'.symm), if_neg (fun g => e2 ((key x e).1.1 g)), find_small kd x c xs (by rw [e]; exact h3)]
      · rw [if_neg (fun g => e (key2 x g.1 g.2))]
        unfold findN; rw [kat_set_other _ _ _ _ e]
  | new c p h1 h2 h3 =>
    obtain ⟨c', hc', hc5⟩ : ∃ j : Nat, classI n = j ∧ j < 5 := by
      rcases class_lt n with e | e
      · rw [h1] at e; omega
      · exact e
    obtain rfl : c = c' := by rw [h1] at hc'; omega
    obtain ⟨z1, z2, z3, z4, z5, z6, z7⟩ := sz_facts c hc5
    obtain ⟨hpl, hf⟩ := clear_free (run_clear (by omega) h3)
    have hfp := hf p (by omega) (by omega)
    have hp0 : p ≠ 0 := kat_ne0 h (by rw [hfp]; simp)
    have key : ∀ x, x / 64 = p → ((64 * p ≤ x ∧ x < 64 * p + sz c) ↔ x % 64 / sz c = 0) ∧ (x % 64 / sz c = 0 → x - x % sz c = 64 * p) := by
      intro x hx
      rcases sz_cases c hc5 with ⟨e, f⟩ | ⟨e, f⟩ | ⟨e, f⟩ | ⟨e, f⟩ | ⟨e, f⟩ <;> rw [e] <;> omega
    refine ⟨sz c, by rw [block_class n c h1]; exact (sz_facts c hc5).1, by omega, h.set_small (by omega) (.inl hfp) hc5 (by rw [List.length_set, offs_length]) ⟨0, by rw [bset_same _ _ _ (by rw [offs_length]; omega)]⟩, by simp, by omega, by omega, fun x g1 g2 => ?_, fun x => ?_⟩
    · exact find_free kd x (by rw [show x / 64 = p by omega]; exact hfp)
    · by_cases e : x / 64 = p
      · rw [find_small _ x c ((offs (roomOf c)).set 0 true) (by rw [e]; exact kat_set_same _ _ _ (by omega))]
        by_cases e2 : x % 64 / sz c = 0
        · rw [e2, bset_same _ _ _ (by rw [offs_length]; omega), if_pos rfl, if_pos ((key x e).1.2 e2), (key x e).2 e2]
        · rw [bset_other _ _ _ _ (fun e' => e2 e'.symm), offs_get, if_neg (by simp), if_neg (fun g => e2 ((key x e).1.1 g)), find_free kd x (by rw [e]; exact hfp)]
      · rw [if_neg (fun g => e (by omega))]
        unfold findN; rw [kat_set_other _ _ _ _ e]
  | large k p h1 h2 h3 h4 =>
    have hcl := run_clear h3 h4
    obtain ⟨hpl, hf⟩ := clear_free hcl
    have hp0 : p ≠ 0 := kat_ne0 h (by rw [hf p (by omega) (by omega)]; simp)
    have hk16 : k ≤ 16 := by have := (pages_le n).2; omega
    refine ⟨64 * k, by rw [block_none n h1, h2]; omega, by omega, h.put h3 hk16 hcl, putParts_length _ _ _, by omega, by omega, fun x g1 g2 => ?_, fun x => ?_⟩
    · exact find_free kd x (hf _ (by omega) (by omega))
    · by_cases e : p ≤ x / 64 ∧ x / 64 < p + k
      · rw [find_part _ x (x / 64 - p) k (by rw [putParts_at _ _ _ _ hpl, if_pos e]), if_pos (by omega)]
        congr 2; omega
      · rw [if_neg (by omega)]
        unfold findN; rw [putParts_at _ _ _ _ hpl, if_neg e]

theorem noneB_no {xs : List Bool} {i : Nat} (h : xs[i]?.getD false = true) : noneB xs = false := by
  unfold noneB
  have hl : i < xs.length := by
    rcases Nat.lt_or_ge i xs.length with h1 | h1
    · exact h1
    · rw [List.getElem?_eq_none h1] at h; cases h
  rcases nextR_spec xs true _ 0 rfl with ⟨_, e⟩ | ⟨j, e, _⟩
  · exact absurd h (e i (by omega) hl)
  · rw [e]; simp
theorem noneB_yes {xs : List Bool} (h : noneB xs = true) : ∀ i : Nat, xs[i]?.getD false = false := by
  intro i
  cases e : xs[i]?.getD false
  · rfl
  · rw [noneB_no e] at h; cases h
theorem noneB_ex {xs : List Bool} (h : noneB xs = false) : ∃ i : Nat, xs[i]?.getD false = true := by
  unfold noneB at h
  rcases nextR_spec xs true _ 0 rfl with ⟨e, _⟩ | ⟨j, e, _, _, e3, _⟩
  · rw [e] at h; cases h
  · exact ⟨j, e3⟩

/-- What Free leaves, where a block begins. -/
theorem FreeR.ex {kd : List PK} {a m : Nat} (h : WF kd) (hf : findN kd a = some (a, m)) : ∃ kd', FreeR kd a kd' := by
  cases hk : kat kd (a / 64) with
  | zero => rw [find_zero kd a hk] at hf; cases hf
  | free => rw [find_free kd a hk] at hf; cases hf
  | small c xs =>
    obtain ⟨hc, _, _⟩ := h.small _ c xs hk
    have z3 := (sz_facts c hc).2.2.1
    rw [find_small kd a c xs hk] at hf
    split at hf
    · rename_i hx
      have e : a - a % sz c = a := by simpa using congrArg (fun o => (o.getD (0, 0)).1) hf
      have e0 : a % sz c = 0 := by have := Nat.mod_le a (sz c); omega
      cases hn : noneB (xs.set (a % 64 / sz c) false)
      · exact ⟨_, .one c xs hk hx e0 hn⟩
      · exact ⟨_, .last c xs hk hx e0 hn⟩
    · cases hf
  | part j k =>
    rw [find_part kd a j k hk] at hf
    have e : 64 * (a / 64 - j) = a := by simpa using congrArg (fun o => (o.getD (0, 0)).1) hf
    have := (h.part _ j k hk).2.2.1
    have := (h.part0 hk).1
    obtain rfl : j = 0 := by omega
    exact ⟨_, .large k hk (by omega)⟩
theorem FreeR.spec {kd kd' : List PK} {a m : Nat} (h : WF kd) (hf : findN kd a = some (a, m)) (hr : FreeR kd a kd') : WF kd' ∧ kd'.length = kd.length ∧ ∀ x, findN kd' x = if a ≤ x ∧ x < a + m then none else findN kd x := by
  have hkey : ∀ c xs, kat kd (a / 64) = .small c xs → xs[a % 64 / sz c]?.getD false = true → a % sz c = 0 → m = sz c ∧ ∀ x, (a ≤ x ∧ x < a + sz c ↔ x / 64 = a / 64 ∧ x % 64 / sz c = a % 64 / sz c) := by
    intro c xs h1 h2 h3
    obtain ⟨hc, hl, _⟩ := h.small _ c xs h1
    rw [find_small kd a c xs h1, if_pos h2] at hf
    refine ⟨by simpa using congrArg (fun o => (o.getD (0, 0)).2) hf.symm, fun x => ?_⟩
    rcases sz_cases c hc with ⟨e, f⟩ | ⟨e, f⟩ | ⟨e, f⟩ | ⟨e, f⟩ | ⟨e, f⟩ <;> rw [e] at h3 ⊢ <;> omega
  cases hr with
  | one c xs h1 h2 h3 h4 =>
    obtain ⟨hc, hl, _⟩ := h.small _ c xs h1
    obtain ⟨rfl, hx⟩ := hkey c xs h1 h2 h3
    have hp := kat_lt kd (a / 64) (by rw [h1]; simp)
    have hil : a % 64 / sz c < xs.length := by rw [hl]; exact (sz_word c a hc).2.1
    refine ⟨h.set_small hp (.inr ⟨c, xs, h1⟩) hc (by rw [List.length_set]; exact hl) (noneB_ex h4), by simp, fun x => ?_⟩
    by_cases e : x / 64 = a / 64
    · rw [find_small _ x c (xs.set (a % 64 / sz c) false) (by rw [e]; exact kat_set_same _ _ _ hp)]
      by_cases e2 : x % 64 / sz c = a % 64 / sz c
      · rw [e2, bset_same _ _ _ hil, if_neg (by simp), if_pos ((hx x).2 ⟨e, e2⟩)]
      · rw [bset_other _ _ _ _ (fun e' => e2 e'.symm), if_neg (fun g => e2 ((hx x).1 g).2), find_small kd x c xs (by rw [e]; exact h1)]
    · rw [if_neg (fun g => e ((hx x).1 g).1)]
      unfold findN; rw [kat_set_other _ _ _ _ e]
  | last c xs h1 h2 h3 h4 =>
    obtain ⟨hc, hl, _⟩ := h.small _ c xs h1
    obtain ⟨rfl, hx⟩ := hkey c xs h1 h2 h3
    have hp := kat_lt kd (a / 64) (by rw [h1]; simp)
    have hil : a % 64 / sz c < xs.length := by rw [hl]; exact (sz_word c a hc).2.1
    refine ⟨h.set_free h1, by simp, fun x => ?_⟩
    by_cases e : x / 64 = a / 64
    · rw [find_free _ x (by rw [e]; exact kat_set_same _ _ _ hp)]
      by_cases e2 : x % 64 / sz c = a % 64 / sz c
      · rw [if_pos ((hx x).2 ⟨e, e2⟩)]
      · have := noneB_yes h4 (x % 64 / sz c)
        rw [bset_other _ _ _ _ (fun e' => e2 e'.symm)] at this
        rw [if_neg (fun g => e2 ((hx x).1 g).2), find_small kd x c xs (by rw [e]; exact h1), this]; rfl
    · rw [if_neg (fun g => e ((hx x).1 g).1)]
      unfold findN; rw [kat_set_other _ _ _ _ e]
  | large k h1 h2 =>
    obtain ⟨g1, g2, g3, g4⟩ := h.part _ 0 k h1
    rw [find_part kd a 0 k h1] at hf
    have hm : 64 * k = m := by simpa using congrArg (fun o => (o.getD (0, 0)).2) hf
    subst hm
    refine ⟨h.unput h1, freeParts_length _ _ _, fun x => ?_⟩
    by_cases e : a / 64 ≤ x / 64 ∧ x / 64 < a / 64 + k
    · rw [find_free _ x (by rw [freeParts_at, if_pos e]), if_pos (by omega)]
    · rw [if_neg (by omega)]
      unfold findN; rw [freeParts_at, if_neg e]

end Go.Proofs.Ytdpaffnpedcmpab
