/-
  The document's own words on heads: what its calls answer; and the examples of the eighth folder.
-/
import Derived.Test.YtdpaffnpedcmpabHeadGet
namespace Go.Proofs.Ytdpaffnpedcmpab
open Go.RowKit

instance (x k c l : Int) (f : Bool) : Decidable (Word x k c l f) := by unfold Word; infer_instance

theorem hget_yes (x k c l : Int) (f : Bool) (w : World) (h : Word x k c l f) :
    Calls Try.prog 33 #[.int .i64 x] w fun e w' => e = .returned (.tuple #[.agg #[.int .i64 k, .int .i64 c, .int .i64 l, .bool f], .bool true]) ∧ Keep [] w w' := by
  obtain ⟨h1, h2, h3, h4, h5, h6⟩ := h.parts
  exact hget_raw_yes x k c l f w (by omega) h3 h4 h5 h6 h.1
theorem hget_no (x : Int) (w : World) (hx : -9223372036854775808 ≤ x ∧ x ≤ 9223372036854775807) (h : ∀ k c l f, ¬ Word x k c l f) :
    Calls Try.prog 33 #[.int .i64 x] w fun e w' => e = .returned (.tuple #[.agg #[.int .i64 0, .int .i64 0, .int .i64 0, .bool false], .bool false]) ∧ Keep [] w w' := by
  refine hget_raw_no x _ _ _ _ w hx rfl rfl rfl rfl ?_
  rw [Bool.eq_false_iff]
  exact fun hm => h _ _ _ _ (word_of hm)




end Go.Proofs.Ytdpaffnpedcmpab
