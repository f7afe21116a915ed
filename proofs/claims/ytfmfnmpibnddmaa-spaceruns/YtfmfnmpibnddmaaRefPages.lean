/-
  What the document's own pages (a plain list of bools) do: NewPages, Take, Give.
-/
import Derived.Test.YtfmfnmpibnddmaaPagesOps
import Derived.Test.YtfmfnmpibnddmaaRefBits
namespace Go.Proofs.Ytfmfnmpibnddmaa
open Go.RowKit

theorem run_dn (g n c k : Nat) (xs : List Bool) (w : World) (hr : BRow w 4 g xs) (hxn : xs.length = n) (hn : n ≤ 16384) (hk1 : 1 ≤ k) :
    Calls Try.prog 41 #[.slice (some ⟨g, 0, none⟩) n c, .int .i64 0, .int .i64 k] w fun e w' => e = .returned (.int .i64 (runR xs 0 k)) ∧ w = w' := by
  have := rrun_any g n c 0 k xs w hr hxn hn (by omega)
  unfold runI at this
  rw [if_neg (by omega), Int.toNat_natCast] at this
  exact this

end Go.Proofs.Ytfmfnmpibnddmaa
