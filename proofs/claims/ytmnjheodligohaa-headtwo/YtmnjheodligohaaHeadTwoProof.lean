/-
  HeadTwo answers true, whatever it is given: the statement's row, out of the walk; no conditions.
-/
import Derived.Test.YtmnjheodligohaaTwo8
import Derived.ProofKit
import Derived.OpenShut
namespace Go.Proofs.Ytmnjheodligohaa.headTwo
open Go.ChangeShapes Go.WideShapes Go.ChangeAt Go.RowKit
set_option linter.unusedVariables false

theorem laidOut : laidOutB Try.prog = true := by kernel_rfl
theorem own : ownKnob Try.prog.godebug = none := by kernel_rfl

set_option maxRecDepth 100000 in
theorem lifted (os : Os) (started : os.Started) (H : Type) (enc : TypeId × Value → H) :
    ReturnsInHanded {} Try.checked os 6 .any (Rows.headTwoSpec.pre6 enc Try.prog Try.f6 Rows.headTwoRow.domain false) (Rows.headTwoSpec.post enc Try.prog Try.f6 false true false false) := by
  refine returnsInHanded_of_change (C := Try.checked) own started (by kernel_rfl) Try.func6
    (ChangeSpec.witness6 (enc := enc) (C := Try.checked) false ⟨#[], #[.agg #[.int .i64 0, .int .i64 0, .int .i64 0, .bool false], .agg #[.int .i64 0, .int .i64 0, .int .i64 0, .bool false]], []⟩ 8 (by kernel_rfl) (by kernel_rfl) (by kernel_rfl) (by kernel_rfl)) ?_
  intro W base args ds gs before hval0 hW hcnd _
  have hval : ∀ (j : Nat) t v, Try.f6.params[j]? = some t → args[j]? = some v → Value.okWide Try.prog W .any base t v := hval0
  have hW' := hW
  obtain ⟨p, q, hA0, hV, rfl, hfz, hnd⟩ := hW
  have hA : DataW.TrodAll enc Try.prog W 0 (fun _ => true) true Try.f6.params.toList args.toList ds p := hA0
  rw [Try.params6] at hA hval
  obtain ⟨v0, vs0, d0, ds0, p0, q0, hargs, rfl, rfl, h0, r0⟩ := trodAll_cons hA
  obtain ⟨v1, vs1, d1, ds1, p1, q1, rfl, rfl, rfl, h1, r1⟩ := trodAll_cons r0
  obtain ⟨rfl, rfl, rfl⟩ := trodAll_nil r1
  obtain rfl : args = #[v0, v1] := by cases args; simp_all
  obtain ⟨rfl, rfl⟩ := trodVars_none hV
  have k0 := h0
  have lt0 : ∀ x ∈ p0, x.block < W.heap.size := by obtain ⟨m, hm⟩ := k0; exact DataW.trod_lt m _ _ _ hm
  obtain ⟨cs0, e0, hl0, hc0⟩ := open_struct [.i .i64, .i .i64, .i .i64, .b] Try.underlying23 rfl (by kernel_rfl) (by
    intro k f h
    rcases k with _ | _ | _ | _ | k
    all_goals (simp at h; try subst h)
    · exact ⟨rfl, by kernel_rfl, _, rfl, Try.underlying3⟩
    · exact ⟨rfl, by kernel_rfl, _, rfl, Try.underlying3⟩
    · exact ⟨rfl, by kernel_rfl, _, rfl, Try.underlying3⟩
    · exact ⟨rfl, by kernel_rfl, _, rfl, Try.underlying4⟩
    ) (hval 0 23 v0 rfl rfl) h0
  subst e0
  obtain ⟨c0_0, c0_1, c0_2, c0_3, rfl⟩ : ∃ c0_0 c0_1 c0_2 c0_3, cs0 = [c0_0, c0_1, c0_2, c0_3] := by
    rcases cs0 with _ | ⟨zz, _ | ⟨z2, _ | ⟨z1, _ | ⟨z0, _ | ⟨z, zs⟩⟩⟩⟩⟩
    all_goals first | (simp at hl0; done) | exact ⟨_, _, _, _, rfl⟩
  obtain ⟨a0_0, rfl, w0_0⟩ := hc0 0 _ _ rfl rfl
  obtain ⟨a0_1, rfl, w0_1⟩ := hc0 1 _ _ rfl rfl
  obtain ⟨a0_2, rfl, w0_2⟩ := hc0 2 _ _ rfl rfl
  obtain ⟨a0_3, rfl⟩ := hc0 3 _ _ rfl rfl
  have k1 := h1
  have lt1 : ∀ x ∈ p1, x.block < W.heap.size := by obtain ⟨m, hm⟩ := k1; exact DataW.trod_lt m _ _ _ hm
  obtain ⟨cs1, e1, hl1, hc1⟩ := open_struct [.i .i64, .i .i64, .i .i64, .b] Try.underlying23 rfl (by kernel_rfl) (by
    intro k f h
    rcases k with _ | _ | _ | _ | k
    all_goals (simp at h; try subst h)
    · exact ⟨rfl, by kernel_rfl, _, rfl, Try.underlying3⟩
    · exact ⟨rfl, by kernel_rfl, _, rfl, Try.underlying3⟩
    · exact ⟨rfl, by kernel_rfl, _, rfl, Try.underlying3⟩
    · exact ⟨rfl, by kernel_rfl, _, rfl, Try.underlying4⟩
    ) (hval 1 23 v1 rfl rfl) h1
  subst e1
  obtain ⟨c1_0, c1_1, c1_2, c1_3, rfl⟩ : ∃ c1_0 c1_1 c1_2 c1_3, cs1 = [c1_0, c1_1, c1_2, c1_3] := by
    rcases cs1 with _ | ⟨zz, _ | ⟨z2, _ | ⟨z1, _ | ⟨z0, _ | ⟨z, zs⟩⟩⟩⟩⟩
    all_goals first | (simp at hl1; done) | exact ⟨_, _, _, _, rfl⟩
  obtain ⟨a1_0, rfl, w1_0⟩ := hc1 0 _ _ rfl rfl
  obtain ⟨a1_1, rfl, w1_1⟩ := hc1 1 _ _ rfl rfl
  obtain ⟨a1_2, rfl, w1_2⟩ := hc1 2 _ _ rfl rfl
  obtain ⟨a1_3, rfl⟩ := hc1 3 _ _ rfl rfl
  clear hA0 hval0
  refine (walk a0_0 a0_1 a0_2 a0_3 a1_0 a1_1 a1_2 a1_3 w0_0 w0_1 w0_2 w1_0 w1_1 w1_2 W).mono fun e W' ⟨he, hk⟩ => ?_
  subst he
  have bel : Below W.heap.size W W' := hk.below (Nat.le_refl _) (by simp)
  exact ⟨_, rfl, _, _, _, [], _, [], hW', trodAll_mk1 (shut_bool Try.underlying4 _), (trodAll_cons_mk (Below.trod laidOut (by kernel_rfl) (of_decide_eq_true (by kernel_rfl)) k0 bel lt0) (trodAll_cons_mk (Below.trod laidOut (by kernel_rfl) (of_decide_eq_true (by kernel_rfl)) k1 bel lt1) trodAll_mk0)), rfl, bel.frame _, fun h => by cases h⟩

theorem over : Rows.headTwoRow.holds Try.pinned (OpenSpec.ofChange Rows.headTwoSpec) :=
  OpenClaim.holds_of_wide 6 Try.f6 rfl rfl rfl rfl rfl rfl rfl ⟨rfl, rfl, rfl, rfl, rfl⟩ rfl rfl rfl rfl rfl (by kernel_rfl) Try.func6 (by kernel_rfl)
    (of_decide_eq_true (by kernel_rfl)) (by unfold Func.isWrapper; first | (rw [if_pos (by decide +kernel)]; kernel_rfl) | (rw [if_neg (by decide +kernel)]; exact ⟨rfl, rfl⟩))
    (fun os started H enc _ => lifted os started H enc)

theorem proved : Rows.HeadTwoSaid :=
  over
#print axioms proved
end Go.Proofs.Ytmnjheodligohaa.headTwo
