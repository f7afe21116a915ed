/-
  What Alloc and Free answer and leave, whatever is asked: plain facts.
-/
import Derived.Test.YtdpaffnpedcmpabSpaceM2
import Derived.Test.YtdpaffnpedcmpabSpaceEach
namespace Go.Proofs.Ytdpaffnpedcmpab
open Go.RowKit

/-- What Alloc answers and leaves. -/
inductive AllocT (kd : List PK) (ws : List Int) (n : Int) : Int → Int → List Int → List PK → Prop
  | arg : blockI n = 0 → AllocT kd ws n 0 1 ws kd
  | no : blockI n ≠ 0 → AllocR kd n none → AllocT kd ws n 0 3 ws kd
  | yes (a b : Nat) (kd' : List PK) : AllocR kd n (some (a, kd')) → blockI n = b → AllocT kd ws n a 0 (fill0 ws a b) kd'
theorem allocT_ex {kd : List PK} (ws : List Int) (n : Int) (hw : WF kd) : ∃ N E ws' kd', AllocT kd ws n N E ws' kd' := by
  by_cases hb : blockI n = 0
  · exact ⟨_, _, _, _, .arg hb⟩
  · obtain ⟨r, hr⟩ := alloc_ex kd n hb
    cases r with
    | none => exact ⟨_, _, _, _, .no hb hr⟩
    | some r =>
      obtain ⟨a, kd'⟩ := r
      obtain ⟨b, hb', _⟩ := hr.spec hw
      exact ⟨_, _, _, _, .yes a b kd' hr hb'⟩
theorem AllocT.spec {kd kd' : List PK} {ws ws' : List Int} {n N E : Int} (h : AllocT kd ws n N E ws' kd') (hw : WF kd) (hl : ws.length = 64 * kd.length) :
    WF kd' ∧ kd'.length = kd.length ∧ ws'.length = ws.length ∧ (E = 0 ∧ (∃ a : Nat, N = a ∧ a < ws.length) ∨ (E = 1 ∨ E = 3) ∧ N = 0) := by
  cases h with
  | arg h => exact ⟨hw, rfl, rfl, .inr ⟨.inl rfl, rfl⟩⟩
  | no h hr => exact ⟨hw, rfl, rfl, .inr ⟨.inr rfl, rfl⟩⟩
  | yes a b kd' hr hb =>
    obtain ⟨b', hb', h1, h2, h3, h4, h5, _⟩ := hr.spec hw
    obtain rfl : b = b' := by rw [hb] at hb'; omega
    exact ⟨h2, h3, fill0_length _ _ _ (by omega), .inl ⟨rfl, a, rfl, by omega⟩⟩
/-- What Free answers and leaves. -/
inductive FreeT (kd : List PK) (a : Int) : Int → List PK → Prop
  | no : (∀ s n, findI kd a = some (s, n) → (s : Int) ≠ a) → FreeT kd a 2 kd
  | yes (b m : Nat) (kd' : List PK) : a = b → findN kd b = some (b, m) → FreeR kd b kd' → FreeT kd a 0 kd'
theorem freeT_ex {kd : List PK} (a : Int) (hw : WF kd) : ∃ E kd', FreeT kd a E kd' := by
  by_cases h : ∃ s n, findI kd a = some (s, n) ∧ (s : Int) = a
  · obtain ⟨s, n, h1, h2⟩ := h
    have h3 : findN kd s = some (s, n) := by
      unfold findI at h1
      rw [if_neg (by omega), ← h2, Int.toNat_natCast] at h1
      exact h1
    obtain ⟨kd', hr⟩ := FreeR.ex hw h3
    exact ⟨_, _, .yes s n kd' h2.symm h3 hr⟩
  · exact ⟨_, _, .no (fun s n e e' => h ⟨s, n, e, e'⟩)⟩
theorem FreeT.spec {kd kd' : List PK} {a E : Int} (h : FreeT kd a E kd') (hw : WF kd) : WF kd' ∧ kd'.length = kd.length := by
  cases h with
  | no h => exact ⟨hw, rfl⟩
  | yes b m kd' e hf hr => exact ⟨(hr.spec hw hf).1, (hr.spec hw hf).2.1⟩

theorem each_fresh (n : Nat) (h : 1 ≤ n) : eachK (freshK n) = [] := by
  rw [List.eq_nil_iff_forall_not_mem]
  intro x hx
  obtain ⟨p, _, hm⟩ := eachTo_mem _ _ x hx
  rw [freshK_at n p h] at hm
  split at hm <;> cases hm
theorem used_fresh (n : Nat) (h : 1 ≤ n) : usedK (freshK n) = 0 := by unfold usedK; rw [each_fresh n h]; rfl

end Go.Proofs.Ytdpaffnpedcmpab
