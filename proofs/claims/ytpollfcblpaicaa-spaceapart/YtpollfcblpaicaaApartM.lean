/-
  A space beside two lists that grow: what was allocated, and how much. And the plain mathematics of it.
-/
import Derived.Test.YtpollfcblpaicaaSpaceHeld
import Derived.Test.YtpollfcblpaicaaSpaceSum
import Derived.Test.YtpollfcblpaicaaTwin
namespace Go.Proofs.Ytpollfcblpaicaa
open Go.RowKit

/-- What was allocated lies there, and nothing else. -/
structure Hold (kd : List PK) (AT SZ : List Int) : Prop where
  same : SZ.length = AT.length
  held : ∀ t, t < AT.length → ∃ A Z : Nat, AT[t]?.getD 0 = A ∧ SZ[t]?.getD 0 = Z ∧ findN kd A = some (A, Z)
  inj : ∀ t u, t < AT.length → u < AT.length → AT[t]?.getD 0 = AT[u]?.getD 0 → t = u
  cover : ∀ x s n, findN kd x = some (s, n) → ∃ t, t < AT.length ∧ AT[t]?.getD 0 = s
theorem Hold.more {kd kd' : List PK} {AT SZ : List Int} {n : Int} {a b : Nat} (h : Hold kd AT SZ) (hw : WF kd) (hr : AllocR kd n (some (a, kd'))) (hb : blockI n = b) : Hold kd' (AT ++ [(a : Int)]) (SZ ++ [(b : Int)]) := by
  obtain ⟨b', hb', hb1, _, _, _, _, hf1, hf2⟩ := hr.spec hw
  obtain rfl : b = b' := by rw [hb] at hb'; omega
  have hna : ∀ t, t < AT.length → AT[t]?.getD 0 ≠ (a : Int) := by
    intro t ht e
    obtain ⟨A, Z, e1, _, e3⟩ := h.held t ht
    obtain rfl : A = a := by omega
    rw [hf1 A (by omega) (by omega)] at e3; cases e3
  refine ⟨by simp [h.same], fun t ht => ?_, fun t u ht hu e => ?_, fun x s m e => ?_⟩
  · by_cases e : t < AT.length
    · obtain ⟨A, Z, e1, e2, e3⟩ := h.held t e
      refine ⟨A, Z, by rw [snoc_old _ _ _ e]; exact e1, by rw [snoc_old _ _ _ (by rw [h.same]; exact e)]; exact e2, ?_⟩
      rw [hf2, if_neg ?_]
      · exact e3
      · intro g; rw [hf1 A g.1 g.2] at e3; cases e3
    · have e' : t = AT.length := by simp at ht; omega
      exact ⟨a, b, snoc_new _ _ _ e', snoc_new _ _ _ (by rw [h.same]; exact e'), by rw [hf2, if_pos (by omega)]⟩
  · simp at ht hu
    by_cases e1 : t < AT.length
    · rw [snoc_old _ _ _ e1] at e
      by_cases e2 : u < AT.length
      · rw [snoc_old _ _ _ e2] at e
        exact h.inj t u e1 e2 e
      · rw [snoc_new _ _ _ (by omega)] at e
        exact absurd e (hna t e1)
    · rw [snoc_new _ _ _ (by omega)] at e
      by_cases e2 : u < AT.length
      · rw [snoc_old _ _ _ e2] at e
        exact absurd e.symm (hna u e2)
      · omega
  · rw [hf2] at e
    split at e
    · cases e
      exact ⟨AT.length, by simp, snoc_new _ _ _ rfl⟩
    · obtain ⟨t, h1, h2⟩ := h.cover x s m e
      exact ⟨t, by simp; omega, by rw [snoc_old _ _ _ h1]; exact h2⟩
theorem Hold.apart {kd kd' : List PK} {AT SZ : List Int} {n : Int} {a b : Nat} (h : Hold kd AT SZ) (hw : WF kd) (hr : AllocR kd n (some (a, kd'))) (hb : blockI n = b) {t : Nat} (ht : t < AT.length) :
    ∃ A Z : Nat, AT[t]?.getD 0 = A ∧ SZ[t]?.getD 0 = Z ∧ (A + Z ≤ a ∨ a + b ≤ A) ∧ A + Z ≤ 64 * kd.length := by
  obtain ⟨b', hb', hb1, _, _, _, _, hf1, hf2⟩ := hr.spec hw
  obtain rfl : b = b' := by rw [hb] at hb'; omega
  obtain ⟨A, Z, e1, e2, e3⟩ := h.held t ht
  obtain ⟨g1, g2, g3, g4, g5, g6⟩ := hw.found e3
  refine ⟨A, Z, e1, e2, ?_, g4⟩
  rcases Nat.lt_or_ge a (A + Z) with h1 | h1
  · rcases Nat.lt_or_ge A (a + b) with h2 | h2
    · have p := g6 (max a A) (by omega) (by omega)
      rw [hf1 (max a A) (by omega) (by omega)] at p
      cases p
    · exact .inr h2
  · exact .inl h1

/-- Which one is freed as the i-th one. -/
def idx (back : Bool) (q i : Nat) : Nat := if back = true then q - 1 - i else i
theorem idx_lt {back : Bool} {q i : Nat} (h : i < q) : idx back q i < q := by unfold idx; split <;> omega
theorem idx_idx {back : Bool} {q i : Nat} (h : i < q) : idx back q (idx back q i) = i := by unfold idx; split <;> omega
structure Rest (kd : List PK) (AT : List Int) (back : Bool) (i : Nat) : Prop where
  held : ∀ t, i ≤ t → t < AT.length → ∃ A Z : Nat, AT[idx back AT.length t]?.getD 0 = A ∧ findN kd A = some (A, Z)
  inj : ∀ t u, t < AT.length → u < AT.length → AT[t]?.getD 0 = AT[u]?.getD 0 → t = u
  cover : ∀ x s n, findN kd x = some (s, n) → ∃ t, i ≤ t ∧ t < AT.length ∧ AT[idx back AT.length t]?.getD 0 = s
theorem Hold.rest {kd : List PK} {AT SZ : List Int} (h : Hold kd AT SZ) (back : Bool) : Rest kd AT back 0 := by
  refine ⟨fun t _ ht => ?_, h.inj, fun x s n e => ?_⟩
  · obtain ⟨A, Z, e1, _, e3⟩ := h.held _ (idx_lt (back := back) ht)
    exact ⟨A, Z, e1, e3⟩
  · obtain ⟨t, h1, h2⟩ := h.cover x s n e
    exact ⟨idx back AT.length t, by omega, idx_lt h1, by rw [idx_idx h1]; exact h2⟩
theorem Rest.step {kd : List PK} {AT : List Int} {back : Bool} {i : Nat} (h : Rest kd AT back i) (hw : WF kd) (hi : i < AT.length) :
    ∃ (A Z : Nat) (kd' : List PK), AT[idx back AT.length i]?.getD 0 = A ∧ findN kd A = some (A, Z) ∧ FreeR kd A kd' ∧ findN kd' A = none ∧ kd'.length = kd.length ∧ Rest kd' AT back (i + 1) := by
  obtain ⟨A, Z, e1, e2⟩ := h.held i (Nat.le_refl _) hi
  obtain ⟨kd', hr⟩ := FreeR.ex hw e2
  obtain ⟨hw', hl', hf⟩ := hr.spec hw e2
  obtain ⟨g1, g2, g3, g4, g5, g6⟩ := hw.found e2
  refine ⟨A, Z, kd', e1, e2, hr, by rw [hf, if_pos ⟨g1, g2⟩], hl', fun t a b => ?_, h.inj, fun x s n e => ?_⟩
  · obtain ⟨A', Z', e3, e4⟩ := h.held t (by omega) b
    refine ⟨A', Z', e3, ?_⟩
    rw [hf, if_neg ?_]
    · exact e4
    · intro g
      have := g6 A' g.1 g.2
      rw [this] at e4
      cases e4
      have := h.inj _ _ (idx_lt (back := back) b) (idx_lt (back := back) hi) (by rw [e3, e1])
      have h1 := idx_idx (back := back) b
      have h2 := idx_idx (back := back) hi
      rw [this] at h1
      omega
  · rw [hf] at e
    split at e
    · cases e
    · rename_i hx
      obtain ⟨t, h1, h2, h3⟩ := h.cover x s n e
      refine ⟨t, ?_, h2, h3⟩
      rcases Nat.eq_or_lt_of_le h1 with e' | e'
      · subst e'
        exfalso
        obtain rfl : A = s := by omega
        obtain ⟨k1, k2, k3, k4, k5, k6⟩ := hw.found e
        have := k6 A (by omega) (by omega)
        rw [e2] at this
        cases this
        exact hx ⟨k1, k2⟩
      · exact e'
theorem Rest.over {kd : List PK} {AT : List Int} {back : Bool} (h : Rest kd AT back AT.length) (hw : WF kd) : kd = freshK kd.length :=
  hw.is_fresh (fun a => by
    cases e : findN kd a with
    | none => rfl
    | some o =>
      obtain ⟨s, n⟩ := o
      obtain ⟨t, h1, h2, _⟩ := h.cover a s n e
      omega)

/-- A space, and two lists that grow, all of it younger than w0. -/
structure Two (w0 w : World) (sb : Nat) (ws : List Int) (kd : List PK) (la ls : Option Addr) (qa qs ca cs : Nat) (AT SZ : List Int) : Prop where
  ex : ∃ F, IsSpace w sb F ws kd ∧ (∀ k, k ∈ F → w0.heap.size ≤ k) ∧ (∀ y, la = some y → y.block ∉ F) ∧ ∀ y, ls = some y → y.block ∉ F
  wf : WF kd
  K : Keep [] w0 w
  oa : w.ownsRow w0.heap.size 3 1 (.slice la qa ca) qa (ints AT)
  os : w.ownsRow w0.heap.size 3 1 (.slice ls qs cs) qs (ints SZ)
  ap : Apart la ls
  ba : ∀ i : Nat, -9223372036854775808 ≤ AT[i]?.getD 0 ∧ AT[i]?.getD 0 ≤ 9223372036854775807
  bs : ∀ i : Nat, -9223372036854775808 ≤ SZ[i]?.getD 0 ∧ SZ[i]?.getD 0 ≤ 9223372036854775807
theorem Two.held {w0 w : World} {sb : Nat} {ws : List Int} {kd : List PK} {la ls : Option Addr} {qa qs ca cs : Nat} {AT SZ : List Int} (h : Two w0 w sb ws kd la ls qa qs ca cs AT SZ) : Held w0 w sb ws kd := by
  obtain ⟨F, h1, h2, _⟩ := h.ex
  exact ⟨F, h1, h.wf, h.K, h2⟩
/-- The space is turned. -/
theorem Two.step {w0 w w' : World} {sb : Nat} {ws ws' : List Int} {kd kd' : List PK} {la ls : Option Addr} {qa qs ca cs : Nat} {AT SZ : List Int} {F F' : List Nat} (h : Two w0 w sb ws kd la ls qa qs ca cs AT SZ) (hF : ∀ k, k ∈ F → w0.heap.size ≤ k) (hla : ∀ y, la = some y → y.block ∉ F) (hls : ∀ y, ls = some y → y.block ∉ F)
    (hS : IsSpace w' sb F' ws' kd') (hw : WF kd') (hK : Keep F w w') (hG : Grows w F F') : Two w0 w' sb ws' kd' la ls qa qs ca cs AT SZ := by
  have hsz := h.K.size
  obtain ⟨_, _, pa⟩ := own_at h.oa h.ba
  obtain ⟨_, _, ps⟩ := own_at h.os h.bs
  refine { h with ex := ⟨F', hS, fun k e => ?_, fun y e e' => ?_, fun y e e' => ?_⟩, wf := hw, K := ?_, oa := own_keepS h.oa hK hla, os := own_keepS h.os hK hls }
  · rcases hG k e with e | e
    · exact hF k e
    · omega
  · rcases hG _ e' with e2 | e2
    · exact hla y e e2
    · have := (pa y e).2; omega
  · rcases hG _ e' with e2 | e2
    · exact hls y e e2
    · have := (ps y e).2; omega
  · exact ((h.K.mono (by simp)).trans hK).drop (fun k e hlt => by have := hF k e; omega)
theorem Two.keep0 {w0 w w' : World} {sb : Nat} {ws : List Int} {kd : List PK} {la ls : Option Addr} {qa qs ca cs : Nat} {AT SZ : List Int} (h : Two w0 w sb ws kd la ls qa qs ca cs AT SZ) (hK : Keep [] w w') : Two w0 w' sb ws kd la ls qa qs ca cs AT SZ := by
  obtain ⟨F, h1, h2, h3, h4⟩ := h.ex
  exact h.step h2 h3 h4 (h1.keep0 hK) h.wf (hK.mono (by simp)) (Grows.refl _ _)
theorem Two.grewA {w0 w w7 : World} {o : Obj} {sb : Nat} {ws : List Int} {kd : List PK} {la ls : Option Addr} {qa qs ca cs ga ca7 : Nat} {AT SZ : List Int} {x : Int} (h : Two w0 w sb ws kd la ls qa qs ca cs AT SZ)
    (hown : w7.ownsRow w0.heap.size 3 1 (.slice (some ⟨ga, 0, none⟩) (qa + 1) ca7) (qa + 1) (ints (AT ++ [x]))) (hgrow : (w.alloc o).grownBy w7 (Value.slice la qa ca).ownBlock) (hblk : (Value.slice la qa ca).ownBlock = some ga ∨ ga = w.heap.size + 1)
    (hx : -9223372036854775808 ≤ x ∧ x ≤ 9223372036854775807) : Two w0 w7 sb ws kd (some ⟨ga, 0, none⟩) ls (qa + 1) qs ca7 cs (AT ++ [x]) SZ := by
  obtain ⟨F, h1, h2, h3, h4⟩ := h.ex
  obtain ⟨_, _, pa⟩ := own_at h.oa h.ba
  obtain ⟨_, _, ps⟩ := own_at h.os h.bs
  have G : Keep (la.toList.map (·.block)) w w7 := ((Keep.alloc [] w _).mono (by simp)).trans (grown_keep hgrow)
  have hlaS : ∀ k, k ∈ F → k ∉ la.toList.map (·.block) := by
    intro k hk hm
    cases la with
    | none => simp at hm
    | some y => simp at hm; subst hm; exact h3 y rfl hk
  have hsz := h.K.size
  refine ⟨⟨F, h1.keep G hlaS, h2, fun y e e' => ?_, h4⟩, h.wf, ?_, hown, (h.os.alloc _).kept hgrow (h.ap.kept qs cs qa ca), h.ap.grown hblk (fun y hy => by have := (ps y hy).2; omega), app_bd h.ba hx.1 hx.2, h.bs⟩
  · cases e
    rcases hblk with e | e
    · cases la with
      | none => simp [Value.ownBlock] at e
      | some z =>
        simp [Value.ownBlock] at e
        exact h3 z rfl (by rw [e]; exact e')
    · have := h1.lt _ e'
      simp only at this
      omega
  · exact ((h.K.mono (by simp)).trans G).drop (fun k e hlt => by have := blocks_ge pa k e; omega)
theorem Two.grewS {w0 w w7 : World} {o : Obj} {sb : Nat} {ws : List Int} {kd : List PK} {la ls : Option Addr} {qa qs ca cs gs cs7 : Nat} {AT SZ : List Int} {x : Int} (h : Two w0 w sb ws kd la ls qa qs ca cs AT SZ)
    (hown : w7.ownsRow w0.heap.size 3 1 (.slice (some ⟨gs, 0, none⟩) (qs + 1) cs7) (qs + 1) (ints (SZ ++ [x]))) (hgrow : (w.alloc o).grownBy w7 (Value.slice ls qs cs).ownBlock) (hblk : (Value.slice ls qs cs).ownBlock = some gs ∨ gs = w.heap.size + 1)
    (hx : -9223372036854775808 ≤ x ∧ x ≤ 9223372036854775807) : Two w0 w7 sb ws kd la (some ⟨gs, 0, none⟩) qa (qs + 1) ca cs7 AT (SZ ++ [x]) := by
  obtain ⟨F, h1, h2, h3, h4⟩ := h.ex
  have sw : Two w0 w sb ws kd ls la qs qa cs ca SZ AT := ⟨⟨F, h1, h2, h4, h3⟩, h.wf, h.K, h.os, h.oa, h.ap.symm, h.bs, h.ba⟩
  have := sw.grewA hown hgrow hblk hx
  obtain ⟨F', h1', h2', h3', h4'⟩ := this.ex
  exact ⟨⟨F', h1', h2', h4', h3'⟩, this.wf, this.K, this.os, this.oa, this.ap.symm, this.bs, this.ba⟩
theorem Two.start {w0 w : World} {sb : Nat} {F : List Nat} {ws : List Int} {kd : List PK} (h : IsSpace w sb F ws kd) (hw : WF kd) (hK : Keep [] w0 w) (hF : ∀ k, k ∈ F → w0.heap.size ≤ k) : Two w0 w sb ws kd none none 0 0 0 0 [] [] := by
  refine ⟨⟨F, h, hF, ?_, ?_⟩, hw, hK, World.ownsRow_nil _ _ _ _, World.ownsRow_nil _ _ _ _, ?_, ?_, ?_⟩
  · intro y e; cases e
  · intro y e; cases e
  · intro x y e; cases e
  · intro i; simp
  · intro i; simp

theorem talloc_yes {w0 : World} {la ls : Option Addr} {qa qs ca cs : Nat} {AT SZ : List Int} (sb a b : Nat) (n : Int) (ws : List Int) (kd kd' : List PK) (w : World) (h : Two w0 w sb ws kd la ls qa qs ca cs AT SZ) (hr : AllocR kd n (some (a, kd'))) (hb : blockI n = b) :
    Calls Try.prog 18 #[.pointer (some ⟨sb, 0, none⟩), .int .i64 n] w fun e w' => e = .returned (.tuple #[.int .i64 a, .int .i64 0]) ∧ Two w0 w' sb (fill0 ws a b) kd' la ls qa qs ca cs AT SZ := by
  obtain ⟨F, h1, h2, h3, h4⟩ := h.ex
  refine (salloc_yes sb a b n F ws kd kd' w h1 h.wf hr hb).mono ?_
  rintro e w' ⟨F', rfl, hS, hK, hG⟩
  obtain ⟨_, _, _, hw', _⟩ := hr.spec h.wf
  exact ⟨rfl, h.step h2 h3 h4 hS hw' hK hG⟩
theorem talloc_no {w0 : World} {la ls : Option Addr} {qa qs ca cs : Nat} {AT SZ : List Int} (sb : Nat) (n : Int) (ws : List Int) (kd : List PK) (w : World) (h : Two w0 w sb ws kd la ls qa qs ca cs AT SZ) (hr : AllocR kd n none) (hb : blockI n ≠ 0) :
    Calls Try.prog 18 #[.pointer (some ⟨sb, 0, none⟩), .int .i64 n] w fun e w' => e = .returned (.tuple #[.int .i64 0, .int .i64 3]) ∧ Two w0 w' sb ws kd la ls qa qs ca cs AT SZ := by
  obtain ⟨F, h1, h2, h3, h4⟩ := h.ex
  refine (salloc_no sb n F ws kd w h1 h.wf hr hb).mono ?_
  rintro e w' ⟨rfl, hK⟩
  exact ⟨rfl, h.keep0 hK⟩
theorem tfind {w0 : World} {la ls : Option Addr} {qa qs ca cs : Nat} {AT SZ : List Int} (sb : Nat) (a : Int) (ws : List Int) (kd : List PK) (w : World) (h : Two w0 w sb ws kd la ls qa qs ca cs AT SZ) :
    Calls Try.prog 24 #[.pointer (some ⟨sb, 0, none⟩), .int .i64 a] w fun e w' => e = .returned (foundV (findI kd a)) ∧ Two w0 w' sb ws kd la ls qa qs ca cs AT SZ := by
  obtain ⟨F, h1, h2, h3, h4⟩ := h.ex
  refine (sfind_any sb F a ws kd w h1 h.wf).mono ?_
  rintro e w' ⟨rfl, hK⟩
  exact ⟨rfl, h.keep0 hK⟩
theorem tused {w0 : World} {la ls : Option Addr} {qa qs ca cs : Nat} {AT SZ : List Int} (sb : Nat) (ws : List Int) (kd : List PK) (w : World) (h : Two w0 w sb ws kd la ls qa qs ca cs AT SZ) :
    Calls Try.prog 13 #[.pointer (some ⟨sb, 0, none⟩)] w fun e w' => e = .returned (.int .i64 (usedK kd)) ∧ Two w0 w' sb ws kd la ls qa qs ca cs AT SZ := by
  obtain ⟨F, h1, h2, h3, h4⟩ := h.ex
  refine (sused_any sb F ws kd w h1 h.wf).mono ?_
  rintro e w' ⟨rfl, hK⟩
  exact ⟨rfl, h.keep0 hK⟩
theorem tfree_yes {w0 : World} {la ls : Option Addr} {qa qs ca cs : Nat} {AT SZ : List Int} (sb a m : Nat) (ws : List Int) (kd kd' : List PK) (w : World) (h : Two w0 w sb ws kd la ls qa qs ca cs AT SZ) (hf : findN kd a = some (a, m)) (hr : FreeR kd a kd') :
    Calls Try.prog 16 #[.pointer (some ⟨sb, 0, none⟩), .int .i64 a] w fun e w' => e = .returned (.int .i64 0) ∧ Two w0 w' sb ws kd' la ls qa qs ca cs AT SZ := by
  obtain ⟨F, h1, h2, h3, h4⟩ := h.ex
  refine (sfree_yes sb a m F ws kd kd' w h1 h.wf hf hr).mono ?_
  rintro e w' ⟨rfl, hS, hK⟩
  exact ⟨rfl, h.step h2 h3 h4 hS (hr.spec h.wf hf).1 hK (Grows.refl _ _)⟩
theorem tfree_no {w0 : World} {la ls : Option Addr} {qa qs ca cs : Nat} {AT SZ : List Int} (sb a : Nat) (ws : List Int) (kd : List PK) (w : World) (h : Two w0 w sb ws kd la ls qa qs ca cs AT SZ) (hf : findN kd a = none) :
    Calls Try.prog 16 #[.pointer (some ⟨sb, 0, none⟩), .int .i64 a] w fun e w' => e = .returned (.int .i64 2) ∧ Two w0 w' sb ws kd la ls qa qs ca cs AT SZ := by
  obtain ⟨F, h1, h2, h3, h4⟩ := h.ex
  have hfi : findI kd (a : Int) = none := by unfold findI; rw [if_neg (by omega), Int.toNat_natCast]; exact hf
  refine (sfree_no sb F a ws kd w h1 h.wf (fun s n e => by rw [hfi] at e; cases e)).mono ?_
  rintro e w' ⟨rfl, hK⟩
  exact ⟨rfl, h.keep0 hK⟩

end Go.Proofs.Ytpollfcblpaicaa
