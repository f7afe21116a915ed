/-
  MarkGraph: how many may be marked, how many fields lead on; parts of memory laid in other orders.
-/
import Derived.Test.YtgpidokklhjfdaaGreatRowsG
import Derived.Test.YtgpidokklhjfdaaGreatGraphF
import Derived.Test.YtgpidokklhjfdaaGreatPart6
import Derived.Test.YtgpidokklhjfdaaGreatPart7
namespace Go.Proofs.YtgpidokklhjfdaaGreat
open Go.RowKit

theorem OT.few {kd : List PK} {ws : List Int} {ds : List (Int × List Int)} {n : Nat} {A : Nat → Nat} {kk cc ll : Nat → Int} (h : OT kd ws ds n A kk cc ll) {zs : List Bool} (hz : ∀ x, onM zs x = true → isAt kd x = true) : cntA zs ≤ n := by
  have h1 := nodup_le (marksL_nodup zs) (M := aL A n) (fun x e => by
    obtain ⟨j, hj, rfl⟩ := h.all x (hz x ((marksL_mem zs x).1 e))
    have hjl : j < (aL A n).length := by rw [aL_length]; exact hj
    have := List.getElem_mem hjl
    rw [← aL_get A n j hj, List.getElem?_eq_getElem hjl]
    exact this)
  rw [aL_length, marksL_count] at h1
  exact h1
theorem OT.refs8 {kd : List PK} {ws : List Int} {n : Nat} {A : Nat → Nat} {B : Nat → Nat} (h : OT kd ws dsG n A (kG B) (cG B) (lG B)) {x : Int} {R : List Int} (hR : RefsT kd ws dsG x R) : R.length ≤ 8 := by
  cases hR with
  | none h => simp
  | plain b m i c l f _ hat e1 e2 =>
    rcases i with _ | i
    · simp [dsG] at e2
      obtain ⟨_, rfl⟩ := e2
      simp
    · simp [dsG] at e2
  | refs b m c l f hat =>
    obtain ⟨j, hj, rfl⟩ := h.all x (isAt_yes hat)
    obtain ⟨m', hm⟩ := h.objs j hj
    obtain ⟨_, _, _, _, hl, _⟩ := hat.same hm
    have := lG_bd B j
    rw [upL_length]
    omega
  | data b m c l f hat => simp
  | ref b m c l f hat => simp
section
variable {w0 w : World} {F0 : List Nat} {X Y R L C : Asn}
theorem Has.turnR (h : Has w0 F0 ((X.star ((Y.star R).star L))) w) : Has w0 F0 (Y.star (R.star (L.star X))) w := h.comm.assoc.assoc
theorem Has.turnB (h : Has w0 F0 (Y.star (R.star (L.star X))) w) : Has w0 F0 (X.star (Y.star R)) w :=
  h.assoc'.assoc'.swap.fst.comm
end

end Go.Proofs.YtgpidokklhjfdaaGreat
