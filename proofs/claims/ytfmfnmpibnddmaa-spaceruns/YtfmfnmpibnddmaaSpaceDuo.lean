/-
  The program's space beside the document's own: what each call answers and leaves of both.
-/
import Derived.Test.YtfmfnmpibnddmaaSpaceHeld
import Derived.Test.YtfmfnmpibnddmaaRSpaceUsed
import Derived.Test.YtfmfnmpibnddmaaRSpaceFree
import Derived.Test.YtfmfnmpibnddmaaRSpaceNew
import Derived.Test.YtfmfnmpibnddmaaRSpaceAllocM
namespace Go.Proofs.Ytfmfnmpibnddmaa
open Go.RowKit

/-- What Alloc answers and leaves. -/
inductive AllocT (kd : List PK) (ws : List Int) (n : Int) : Int → Int → List Int → List PK → Prop
  | arg : blockI n = 0 → AllocT kd ws n 0 1 ws kd
  | no : blockI n ≠ 0 → AllocR kd n none → AllocT kd ws n 0 3 ws kd
  | yes (a b : Nat) (kd' : List PK) : AllocR kd n (some (a, kd')) → blockI n = b → AllocT kd ws n a 0 (fill0 ws a b) kd'
theorem allocT_ex {kd : List PK} (ws : List Int) (n : Int) (hw : WF kd) : ∃ N E ws' kd', AllocT kd ws n N E ws' kd' := by
  by_cases hb : blockI n = 0
  · exact ⟨_, _, _, _, .arg hb⟩
  · obtain ⟨r, hr⟩ := alloc_ex kd n hb
    cases r with
    | none => exact ⟨_, _, _, _, .no hb hr⟩
    | some r =>
      obtain ⟨a, kd'⟩ := r
      obtain ⟨b, hb', _⟩ := hr.spec hw
      exact ⟨_, _, _, _, .yes a b kd' hr hb'⟩
theorem AllocT.spec {kd kd' : List PK} {ws ws' : List Int} {n N E : Int} (h : AllocT kd ws n N E ws' kd') (hw : WF kd) (hl : ws.length = 64 * kd.length) :
    WF kd' ∧ kd'.length = kd.length ∧ ws'.length = ws.length ∧ (E = 0 ∧ (∃ a : Nat, N = a ∧ a < ws.length) ∨ (E = 1 ∨ E = 3) ∧ N = 0) := by
  cases h with
  | arg h => exact ⟨hw, rfl, rfl, .inr ⟨.inl rfl, rfl⟩⟩
  | no h hr => exact ⟨hw, rfl, rfl, .inr ⟨.inr rfl, rfl⟩⟩
  | yes a b kd' hr hb =>
    obtain ⟨b', hb', h1, h2, h3, h4, h5, _⟩ := hr.spec hw
    obtain rfl : b = b' := by rw [hb] at hb'; omega
    exact ⟨h2, h3, fill0_length _ _ _ (by omega), .inl ⟨rfl, a, rfl, by omega⟩⟩
/-- What Free answers and leaves. -/
inductive FreeT (kd : List PK) (a : Int) : Int → List PK → Prop
  | no : (∀ s n, findI kd a = some (s, n) → (s : Int) ≠ a) → FreeT kd a 2 kd
  | yes (b m : Nat) (kd' : List PK) : a = b → findN kd b = some (b, m) → FreeR kd b kd' → FreeT kd a 0 kd'
theorem freeT_ex {kd : List PK} (a : Int) (hw : WF kd) : ∃ E kd', FreeT kd a E kd' := by
  by_cases h : ∃ s n, findI kd a = some (s, n) ∧ (s : Int) = a
  · obtain ⟨s, n, h1, h2⟩ := h
    have h3 : findN kd s = some (s, n) := by
      unfold findI at h1
      rw [if_neg (by omega), ← h2, Int.toNat_natCast] at h1
      exact h1
    obtain ⟨kd', hr⟩ := FreeR.ex hw h3
    exact ⟨_, _, .yes s n kd' h2.symm h3 hr⟩
  · exact ⟨_, _, .no (fun s n e e' => h ⟨s, n, e, e'⟩)⟩
theorem FreeT.spec {kd kd' : List PK} {a E : Int} (h : FreeT kd a E kd') (hw : WF kd) : WF kd' ∧ kd'.length = kd.length := by
  cases h with
  | no h => exact ⟨hw, rfl⟩
  | yes b m kd' e hf hr => exact ⟨(hr.spec hw hf).1, (hr.spec hw hf).2.1⟩

theorem each_fresh (n : Nat) (h : 1 ≤ n) : eachK (freshK n) = [] := by
  rw [List.eq_nil_iff_forall_not_mem]
  intro x hx
  obtain ⟨p, _, hm⟩ := eachTo_mem _ _ x hx
  rw [freshK_at n p h] at hm
  split at hm <;> cases hm
theorem used_fresh (n : Nat) (h : 1 ≤ n) : usedK (freshK n) = 0 := by unfold usedK; rw [each_fresh n h]; rfl

/-- Both spaces, younger than w0, in memory of their own. -/
structure Duo (w0 w : World) (sb : Nat) (ws : List Int) (kd : List PK) (mb : Nat) (us : List Int) (jd : List PK) : Prop where
  ex : ∃ F G, IsSpace w sb F ws kd ∧ IsRef w mb G us jd ∧ (∀ k, k ∈ F → w0.heap.size ≤ k) ∧ (∀ k, k ∈ G → w0.heap.size ≤ k) ∧ ∀ k, k ∈ F → k ∉ G
  wf : WF kd
  wj : WF jd
  K : Keep [] w0 w
theorem Duo.left {w0 w w' : World} {sb mb : Nat} {ws' us : List Int} {kd' jd : List PK} {F F' G : List Nat} (h2 : IsRef w mb G us jd) (hF : ∀ k, k ∈ F → w0.heap.size ≤ k) (hG : ∀ k, k ∈ G → w0.heap.size ≤ k) (hd : ∀ k, k ∈ F → k ∉ G)
    (hw : WF kd') (hj : WF jd) (K0 : Keep [] w0 w) (h1 : IsSpace w' sb F' ws' kd') (K : Keep F w w') (g : Grows w F F') : Duo w0 w' sb ws' kd' mb us jd := by
  have hs := K0.size
  refine ⟨⟨F', G, h1, h2.keep K (fun k hk e => hd k e hk), fun k hk => ?_, hG, fun k hk e => ?_⟩, hw, hj, ((K0.mono (T := F) (by simp)).trans K).drop (fun k hk hlt => by have := hF k hk; omega)⟩
  · rcases g k hk with h | h
    · exact hF k h
    · omega
  · rcases g k hk with h | h
    · exact hd k h e
    · have := h2.lt k e; omega
theorem Duo.right {w0 w w' : World} {sb mb : Nat} {ws us' : List Int} {kd jd' : List PK} {F G G' : List Nat} (h1 : IsSpace w sb F ws kd) (hlt : ∀ k, k ∈ F → k < w.heap.size) (hF : ∀ k, k ∈ F → w0.heap.size ≤ k) (hG : ∀ k, k ∈ G → w0.heap.size ≤ k) (hd : ∀ k, k ∈ F → k ∉ G)
    (hw : WF kd) (hj : WF jd') (K0 : Keep [] w0 w) (h2 : IsRef w' mb G' us' jd') (K : Keep G w w') (g : Grows w G G') : Duo w0 w' sb ws kd mb us' jd' := by
  have hs := K0.size
  refine ⟨⟨F, G', h1.keep K hd, h2, hF, fun k hk => ?_, fun k hk e => ?_⟩, hw, hj, ((K0.mono (T := G) (by simp)).trans K).drop (fun k hk hlt => by have := hG k hk; omega)⟩
  · rcases g k hk with h | h
    · exact hG k h
    · omega
  · rcases g k e with h | h
    · exact hd k hk h
    · have := hlt k hk; omega
theorem Duo.keep0 {w0 w w' : World} {sb mb : Nat} {ws us : List Int} {kd jd : List PK} (h : Duo w0 w sb ws kd mb us jd) (K : Keep [] w w') : Duo w0 w' sb ws kd mb us jd := by
  obtain ⟨F, G, h1, h2, h3⟩ := h.ex
  exact ⟨⟨F, G, h1.keep0 K, h2.keep0 K, h3⟩, h.wf, h.wj, h.K.trans K⟩
theorem Duo.len {w0 w : World} {sb mb : Nat} {ws us : List Int} {kd jd : List PK} (h : Duo w0 w sb ws kd mb us jd) : ws.length = 64 * kd.length := by
  obtain ⟨F, G, h1, h2, h3⟩ := h.ex
  exact h1.len
theorem Duo.c0 {w0 w : World} {sb mb : Nat} {ws us : List Int} {kd jd : List PK} (h : Duo w0 w sb ws kd mb us jd) : ∃ ab, w.cell? ⟨sb, 0, none⟩ = some (.pointer (some ⟨ab, 0, none⟩)) := by
  obtain ⟨F, G, ⟨L, h⟩, _⟩ := h.ex; exact ⟨_, h.c0⟩
theorem Duo.c1 {w0 w : World} {sb mb : Nat} {ws us : List Int} {kd jd : List PK} (h : Duo w0 w sb ws kd mb us jd) : ∃ pb, w.cell? ⟨sb, 1, none⟩ = some (.pointer (some ⟨pb, 0, none⟩)) := by
  obtain ⟨F, G, ⟨L, h⟩, _⟩ := h.ex; exact ⟨_, h.c1⟩
theorem Duo.held {w0 w : World} {sb mb : Nat} {ws us : List Int} {kd jd : List PK} (h : Duo w0 w sb ws kd mb us jd) : Held w0 w sb ws kd := by
  obtain ⟨F, G, h1, h2, h3, h4, h5⟩ := h.ex
  exact ⟨F, h1, h.wf, h.K, h3⟩

/-! ### The program's calls -/
section
variable {w0 : World} (sb mb : Nat) (ws us : List Int) (kd jd : List PK) (w : World)
theorem dalloc (n N E : Int) (ws' : List Int) (kd' : List PK) (h : Duo w0 w sb ws kd mb us jd) (hr : AllocT kd ws n N E ws' kd') :
    Calls Try.prog 18 #[.pointer (some ⟨sb, 0, none⟩), .int .i64 n] w fun e w' => e = .returned (.tuple #[.int .i64 N, .int .i64 E]) ∧ Duo w0 w' sb ws' kd' mb us jd := by
  obtain ⟨F, G, h1, h2, h3, h4, h5⟩ := h.ex
  cases hr with
  | arg hb =>
    refine (salloc_arg sb n w hb).mono ?_
    rintro e w' ⟨rfl, hK⟩
    exact ⟨rfl, h.keep0 hK⟩
  | no hb hr =>
    refine (salloc_no sb n F ws kd w h1 h.wf hr hb).mono ?_
    rintro e w' ⟨rfl, hK⟩
    exact ⟨rfl, h.keep0 hK⟩
  | yes a b kd' hr hb =>
    refine (salloc_yes sb a b n F ws kd kd' w h1 h.wf hr hb).mono ?_
    rintro e w' ⟨F', rfl, hS, hK, hG⟩
    obtain ⟨_, _, _, hw', _⟩ := hr.spec h.wf
    exact ⟨rfl, Duo.left h2 h3 h4 h5 hw' h.wj h.K hS hK hG⟩
theorem dfree (a E : Int) (kd' : List PK) (h : Duo w0 w sb ws kd mb us jd) (hr : FreeT kd a E kd') :
    Calls Try.prog 16 #[.pointer (some ⟨sb, 0, none⟩), .int .i64 a] w fun e w' => e = .returned (.int .i64 E) ∧ Duo w0 w' sb ws kd' mb us jd := by
  obtain ⟨F, G, h1, h2, h3, h4, h5⟩ := h.ex
  cases hr with
  | no ho =>
    refine (sfree_no sb F a ws kd w h1 h.wf ho).mono ?_
    rintro e w' ⟨rfl, hK⟩
    exact ⟨rfl, h.keep0 hK⟩
  | yes b m kd' e hf hr =>
    subst e
    refine (sfree_yes sb b m F ws kd kd' w h1 h.wf hf hr).mono ?_
    rintro e w' ⟨rfl, hS, hK⟩
    exact ⟨rfl, Duo.left h2 h3 h4 h5 (hr.spec h.wf hf).1 h.wj h.K hS hK (Grows.refl _ _)⟩
theorem dfind (a : Int) (h : Duo w0 w sb ws kd mb us jd) :
    Calls Try.prog 24 #[.pointer (some ⟨sb, 0, none⟩), .int .i64 a] w fun e w' => e = .returned (foundV (findI kd a)) ∧ Duo w0 w' sb ws kd mb us jd := by
  obtain ⟨F, G, h1, h2, h3, h4, h5⟩ := h.ex
  refine (sfind_any sb F a ws kd w h1 h.wf).mono ?_
  rintro e w' ⟨rfl, hK⟩
  exact ⟨rfl, h.keep0 hK⟩
theorem dused (h : Duo w0 w sb ws kd mb us jd) :
    Calls Try.prog 13 #[.pointer (some ⟨sb, 0, none⟩)] w fun e w' => e = .returned (.int .i64 (usedK kd)) ∧ Duo w0 w' sb ws kd mb us jd := by
  obtain ⟨F, G, h1, h2, h3, h4, h5⟩ := h.ex
  refine (sused_any sb F ws kd w h1 h.wf).mono ?_
  rintro e w' ⟨rfl, hK⟩
  exact ⟨rfl, h.keep0 hK⟩
theorem deach (h : Duo w0 w sb ws kd mb us jd) :
    Calls Try.prog 23 #[.pointer (some ⟨sb, 0, none⟩)] w fun e w' => ∃ la lc, e = .returned (.slice la (eachK kd).length lc) ∧ IntsAt w' la (eachK kd) ∧ Keep [] w w' := by
  obtain ⟨F, G, h1, h2, h3, h4, h5⟩ := h.ex
  refine (seach_any sb F ws kd w h1 h.wf).mono ?_
  rintro e w' ⟨v, rfl, ⟨la, lc, rfl, hI, _, _⟩, hK⟩
  exact ⟨la, lc, rfl, hI, hK⟩
theorem dstore (ab a : Nat) (x : Int) (h : Duo w0 w sb ws kd mb us jd) (hc : w.cell? ⟨sb, 0, none⟩ = some (.pointer (some ⟨ab, 0, none⟩))) (ha : a < ws.length) :
    Calls Try.prog 20 #[.pointer (some ⟨ab, 0, none⟩), .int .i64 a, .int .i64 x] w fun e w' => e = .returned (.int .i64 0) ∧ Duo w0 w' sb (ws.set a x) kd mb us jd ∧ w'.cell? ⟨sb, 0, none⟩ = some (.pointer (some ⟨ab, 0, none⟩)) := by
  obtain ⟨F, G, ⟨L, h1⟩, h2, h3, h4, h5⟩ := h.ex
  have e := h1.c0
  rw [hc] at e
  have e2 : ab = L.ab := by injection e with e; injection e with e; injection e with e; injection e
  subst e2
  refine (store_yes L.ab L.ag a x ws w h1.arena ha).mono ?_
  rintro e w' ⟨rfl, hA, hK⟩
  have f := h1.f.2.2.1
  exact ⟨rfl, Duo.left (F := F) (F' := F) h2 h3 h4 h5 h.wf h.wj h.K ⟨L, h1.words hK hA (by simp)⟩ (hK.mono (fun k e => by simp at e; subst e; exact f)) (Grows.refl _ _), (hK.cell (h1.lt _ h1.f.1) (by simpa using ne_of_role h1.r0 h1.r2 (by omega)) 0).trans hc⟩
/-! ### The document's -/
theorem ealloc (n N E : Int) (us' : List Int) (jd' : List PK) (h : Duo w0 w sb ws kd mb us jd) (hr : AllocT jd us n N E us' jd') :
    Calls Try.prog 19 #[.pointer (some ⟨mb, 0, none⟩), .int .i64 n] w fun e w' => e = .returned (.agg #[.int .i64 N, .int .i64 E]) ∧ Duo w0 w' sb ws kd mb us' jd' := by
  obtain ⟨F, G, h1, h2, h3, h4, h5⟩ := h.ex
  cases hr with
  | arg hb =>
    refine (ralloc_arg mb n w hb).mono ?_
    rintro e w' ⟨rfl, hK⟩
    exact ⟨rfl, h.keep0 hK⟩
  | no hb hr =>
    refine (ralloc_no mb n G us jd w h2 h.wj hr).mono ?_
    rintro e w' ⟨rfl, hK⟩
    exact ⟨rfl, h.keep0 hK⟩
  | yes a b jd' hr hb =>
    refine (ralloc_yes mb a b n G us jd jd' w h2 h.wj hr hb).mono ?_
    rintro e w' ⟨G', rfl, hS, hK, hG⟩
    obtain ⟨_, _, _, hw', _⟩ := hr.spec h.wj
    exact ⟨rfl, Duo.right h1 h1.lt h3 h4 h5 h.wf hw' h.K hS hK hG⟩
theorem efree (a E : Int) (jd' : List PK) (h : Duo w0 w sb ws kd mb us jd) (hr : FreeT jd a E jd') :
    Calls Try.prog 17 #[.pointer (some ⟨mb, 0, none⟩), .int .i64 a] w fun e w' => e = .returned (.int .i64 E) ∧ Duo w0 w' sb ws kd mb us jd' := by
  obtain ⟨F, G, h1, h2, h3, h4, h5⟩ := h.ex
  cases hr with
  | no ho =>
    refine (rfree_no mb G a us jd w h2 h.wj ho).mono ?_
    rintro e w' ⟨rfl, hK⟩
    exact ⟨rfl, h.keep0 hK⟩
  | yes b m jd' e hf hr =>
    subst e
    refine (rfree_yes mb b m G us jd jd' w h2 h.wj hf hr).mono ?_
    rintro e w' ⟨rfl, hS, hK⟩
    exact ⟨rfl, Duo.right h1 h1.lt h3 h4 h5 h.wf (hr.spec h.wj hf).1 h.K hS hK (Grows.refl _ _)⟩
theorem efind (a : Int) (h : Duo w0 w sb ws kd mb us jd) :
    Calls Try.prog 25 #[.pointer (some ⟨mb, 0, none⟩), .int .i64 a] w fun e w' => e = .returned (foundA (findI jd a)) ∧ Duo w0 w' sb ws kd mb us jd := by
  obtain ⟨F, G, h1, h2, h3, h4, h5⟩ := h.ex
  refine (rfind_any mb G a us jd w h2 h.wj).mono ?_
  rintro e w' ⟨rfl, hK⟩
  exact ⟨rfl, h.keep0 hK⟩
theorem eused (h : Duo w0 w sb ws kd mb us jd) :
    Calls Try.prog 21 #[.pointer (some ⟨mb, 0, none⟩)] w fun e w' => e = .returned (.int .i64 (usedK jd)) ∧ Duo w0 w' sb ws kd mb us jd := by
  obtain ⟨F, G, h1, h2, h3, h4, h5⟩ := h.ex
  refine (rused_any mb G us jd w h2 h.wj).mono ?_
  rintro e w' ⟨rfl, hK⟩
  exact ⟨rfl, h.keep0 hK⟩
theorem eeach (h : Duo w0 w sb ws kd mb us jd) :
    Calls Try.prog 15 #[.pointer (some ⟨mb, 0, none⟩)] w fun e w' => ∃ la lc, e = .returned (.slice la (eachK jd).length lc) ∧ IntsAt w' la (eachK jd) ∧ Keep [] w w' := by
  obtain ⟨F, G, h1, h2, h3, h4, h5⟩ := h.ex
  refine (reach_any mb G us jd w h2 h.wj).mono ?_
  rintro e w' ⟨v, rfl, ⟨la, lc, rfl, hI, _, _⟩, hK⟩
  exact ⟨la, lc, rfl, hI, hK⟩
/-- The words of the document's own: where they lie, and what one store leaves. -/
theorem Duo.words (h : Duo w0 w sb ws kd mb us jd) : ∃ gw, w.cell? ⟨mb, 0, none⟩ = some (.slice (some ⟨gw, 0, none⟩) (64 * jd.length) (64 * jd.length)) ∧ w0.heap.size ≤ gw ∧ w0.heap.size ≤ mb ∧ mb ≠ gw ∧ gw < w.heap.size ∧ mb < w.heap.size ∧
    (∀ i, i < us.length → w.cell? ⟨gw, i, none⟩ = some (.int .i64 (us[i]?.getD 0)) ∧ w.frozen? ⟨gw, i, none⟩ = false) ∧
    ∀ i x, Duo w0 (w.setCell ⟨gw, i, none⟩ (.int .i64 x)) sb ws kd mb (us.set i x) jd := by
  obtain ⟨F, G, h1, ⟨L, h2⟩, h3, h4, h5⟩ := h.ex
  obtain ⟨f0, f1, f2, f3, f4⟩ := h2.f
  refine ⟨L.gw, h2.c0, h4 _ f1, h4 _ f0, ne_role h2.r0 h2.r1 (by omega), h2.lt _ f1, h2.lt _ f0, fun i hi => ⟨h2.rowW.cell hi, h2.rowW.free i⟩, fun i x => ?_⟩
  exact Duo.right (G := G) (G' := G) h1 h1.lt h3 h4 h5 h.wf h.wj h.K ⟨L, h2.setW i x⟩ (Keep.setCell _ _ f1) (Grows.refl _ _)
end
theorem duo_new {w0 w : World} {sb n : Nat} (h : Held w0 w sb (zeros (64 * n)) (freshK n)) (h1 : 1 ≤ n) (h2 : n ≤ 256) :
    Calls Try.prog 14 #[.int .i64 n] w fun e w' => ∃ mb, e = .returned (.pointer (some ⟨mb, 0, none⟩)) ∧ Duo w0 w' sb (zeros (64 * n)) (freshK n) mb (zeros (64 * n)) (freshK n) := by
  obtain ⟨F, hS, hw, hK, hF⟩ := h
  refine (rnews_ok n w h1 h2).mono ?_
  rintro e w' ⟨mb, G, rfl, hR, hK2, hG⟩
  have := hK.size
  exact ⟨mb, rfl, ⟨⟨F, G, hS.keep0 hK2, hR, hF, fun k hk => by have := hG k hk; omega, fun k hk e => by have := hG k e; have := hS.lt k hk; omega⟩, hw, hw, hK.trans hK2⟩⟩

end Go.Proofs.Ytfmfnmpibnddmaa
