/-
  Two objects of a fresh heap, one that may lead to the other: plain facts of marks.
-/
import Derived.Test.YtgpidokklhjfdaaGreatGraphF
import Derived.Test.YtgpidokklhjfdaaGreatPart8
namespace Go.Proofs.YtgpidokklhjfdaaGreat
open Go.RowKit

theorem MakeT.zero {kd kd' : List PK} {ws ws' : List Int} {ds : List (Int × List Int)} {k c l N E : Int} {f : Bool} (h : MakeT kd ws ds k c l f N E ws' kd') (hf : Fine ws kd ds) (hE : E = 0) (a t : Nat) (hN : N = (a : Int)) (ht : (t : Int) < l) : ws'[a + 1 + t]?.getD 0 = 0 := by
  cases h with
  | arg h => omega
  | fits E _ _ _ e => exact absurd hE e
  | full _ _ _ _ => omega
  | yes a' b kd' hm e hF hr hb =>
    obtain rfl : a' = a := by omega
    obtain ⟨b', hb', h1, h2, h3, h4, h5, h6, h7⟩ := hr.spec hf.wf
    obtain rfl : b = b' := by rw [hb] at hb'; omega
    have hbd := mayH_bd hm
    have hg := room_ge (l + 1) (by omega) (by omega)
    have hl := hf.len
    rw [set_get_other _ _ _ _ (by omega), fill0_get _ _ _ _ (by omega), if_pos (by omega)]
/-- One behind the other is made, and put: what it leads to. -/
theorem kinds_ex (kk cc ll : Int) (q : Nat) (hq : ll = q) (hm : mayH kk cc ll false = true) (hF : FitsT dsG kk cc ll 0) (hp : pagesI (ll + 1) ≤ (1 : Nat)) (j : Nat) (hj : j < q) :
    ∃ (W1 W2 W3 : List Int) (K1 K2 : List PK) (a b m : Nat), MakeT (freshK 60) (zeros (64 * 60)) dsG 3 0 1 false (a : Int) 0 W1 K1 ∧ MakeT K1 W1 dsG kk cc ll false (b : Int) 0 W2 K2 ∧ a ≤ 16384 ∧ b ≤ 16384 ∧ PutT K2 W2 b j a 0 W3 ∧ At K2 W3 b b m kk cc ll false ∧ MOk K2 W3 dsG (offs W3.length) ∧
      ∀ R, RefsT K2 W3 dsG b R → ∃ ys, MarkT K2 W3 dsG (offs W3.length) [(b : Int)] ys ∧ onM ys (b : Int) = true ∧ onM ys (a : Int) = decide ((j : Int) ∈ R) := by
  obtain ⟨W, K, A, hC⟩ := pchain_ex 60 dsG (fun i => if i = 0 then 3 else kk) (fun i => if i = 0 then 0 else cc) (fun i => if i = 0 then 1 else ll) (by omega) (by omega) (by simp [dsG]) 2 (by omega) (fun i hi => by
    rcases (show i = 0 ∨ i = 1 by omega) with rfl | rfl
    · exact ⟨by simp; exact may_data 1 (by omega) (by omega), .other (by simp), pages_few _ (by simp) (by simp)⟩
    · exact ⟨by simpa using hm, by simpa using hF, by simpa using hp⟩)
  have s0 := hC.step 0 (by omega)
  have s1 := hC.step 1 (by omega)
  simp at s0 s1
  rw [hC.w0, hC.k0] at s0
  have hO := hC.ot 2 (Nat.le_refl _)
  have hf1 := (hC.ot 1 (by omega)).fine
  have hz : ∀ t : Nat, t < q → (W 2)[A 1 + 1 + t]?.getD 0 = 0 := fun t ht => s1.zero hf1 rfl (A 1) t rfl (by omega)
  have b0 := hO.bd 0 (by omega)
  have b1 := hO.bd 1 (by omega)
  obtain ⟨hP, hO'⟩ := hO.put 1 j (by omega) (by simp; omega) (A 0 : Int) (by unfold inI; omega)
  have hne : A 0 ≠ A 1 := fun e => by have := hO.ne 0 1 (by omega) (by omega) e; omega
  have hin := hO.inner 1 j (by omega) (by simp; omega)
  have hlt := hin.lt hO.fine
  obtain ⟨m0, ha0⟩ := hO'.objs 0 (by omega)
  obtain ⟨m1, ha1⟩ := hO'.objs 1 (by omega)
  simp at ha0 ha1
  refine ⟨W 1, W 2, (W 2).set (A 1 + 1 + j) (A 0), K 1, K 2, A 0, A 1, m1, s0, s1, by omega, by omega, hP, ha1, MOk.offs, fun R hR => ?_⟩
  obtain ⟨ys, hT⟩ := markT_ex hO'.fine (offs ((W 2).set (A 1 + 1 + j) (A 0)).length) (offs_length _) [(A 1 : Int)]
  have hroot : Reach (K 2) ((W 2).set (A 1 + 1 + j) (A 0)) dsG [(A 1 : Int)] (A 1 : Int) := .root (by simp) (isAt_yes ha1)
  refine ⟨ys, hT, (hT.iff _).2 (.inr hroot), ?_⟩
  have hall : ∀ x, Reach (K 2) ((W 2).set (A 1 + 1 + j) (A 0)) dsG [(A 1 : Int)] x → x = (A 1 : Int) ∨ (x = (A 0 : Int) ∧ (j : Int) ∈ R) := by
    intro x hx
    induction hx with
    | root h1 _ => simp at h1; exact .inl h1
    | step h1 h2 h3 ih =>
      rename_i x y
      obtain ⟨R', i, E, g1, g2, g3⟩ := h2
      have h0 : y ≠ 0 := fun e => by
        subst e
        obtain ⟨t, ht, e⟩ := hO.all 0 h3
        have := hO.bd t ht
        omega
      rcases ih with rfl | ⟨rfl, _⟩
      · obtain rfl := refsT_one hR g1
        cases g3 with
        | no E _ _ => exact absurd rfl h0
        | yes p hp' hl =>
          cases hp' with
          | yes b m t k c l f h1 e1 e2 e3 =>
            obtain ⟨hb, _, _, _, hl', _⟩ := ha1.same h1
            subst hb
            by_cases e : t = j
            · subst e
              refine .inr ⟨?_, by rw [← e1]; exact g2⟩
              rw [set_get_same _ _ _ hlt]
            · rw [set_get_other _ _ _ _ (by omega), hz t (by omega)] at h0
              exact absurd rfl h0
      · obtain rfl := refsT_one (RefsT.data _ _ _ _ _ ha0) g1
        simp at g2
  rw [Bool.eq_iff_iff, decide_eq_true_iff]
  constructor
  · intro e
    rcases (hT.iff _).1 e with e | e
    · rw [onM_offs] at e; cases e
    · rcases hall _ e with e | ⟨_, e⟩
      · omega
      · exact e
  · intro e
    refine (hT.iff _).2 (.inr (.step hroot ⟨R, j, 0, hR, e, ?_⟩ (isAt_yes ha0)))
    have hfl := FieldT.yes (kd := K 2) (ws := (W 2).set (A 1 + 1 + j) (A 0)) (a := (A 1 : Int)) (i := (j : Int)) (A 1 + 1 + j) (.yes (A 1) m1 j kk cc ll false ha1 rfl (by omega) (by have := at_room hO'.fine ha1; omega)) (by rw [List.length_set]; exact hlt)
    rw [set_get_same _ _ _ hlt] at hfl
    exact hfl

end Go.Proofs.YtgpidokklhjfdaaGreat
