/-
  Whether two lists of integers are the same, as the document's own helper tells it.
-/
import Derived.Test.YtgpidokklhjfdaaGreatRows
import Derived.Test.YtgpidokklhjfdaaGreatPart1
namespace Go.Proofs.YtgpidokklhjfdaaGreat
open Go.RowKit

set_option maxHeartbeats 800000 in
theorem same_q (ao bo : Option Addr) (n c d : Nat) (L : List Int) (w : World) (hA : IntsAt w ao L) (hB : IntsAt w bo L) (hn : L.length = n) (hb : n ≤ 1000000) :
    Calls Tryz.prog 12 #[.slice ao n c, .slice bo n d] w fun e w' => e = .returned (.bool true) ∧ ∃ m, w' = w.drewN m := by
  have HI := (show Hid (0 < n → ∃ b off, ao = some ⟨b, off, none⟩ ∧ b < w.heap.size ∧ ∀ i, i < n → w.cell? ⟨b, off + i, none⟩ = some (.int .i64 (L[i]?.getD 0))) from fun h => by rw [← hn] at h ⊢; exact hA.cells h)
  have HJ := (show Hid (0 < n → ∃ b off, bo = some ⟨b, off, none⟩ ∧ b < w.heap.size ∧ ∀ i, i < n → w.cell? ⟨b, off + i, none⟩ = some (.int .i64 (L[i]?.getD 0))) from fun h => by rw [← hn] at h ⊢; exact hB.cells h)
  clear hA hB hn
  go_enter Tryz.func12, Tryz.ntmps12
  go_wp2
  go_loopw [5] (fun i wr => ∃ j : Nat, i = .int .i64 j ∧ j ≤ n ∧ Hid (∃ m, wr = w.drewN m)) (fun i _ => n - (intOf i).toNat)
  case atStart => exact ⟨0, rfl, by omega, 0, rfl⟩
  case round =>
    obtain ⟨j, rfl, hj, hD⟩ := hrel
    have hK : Keep [] w wr := by obtain ⟨m, e⟩ := hD.out; rw [e]; exact Keep.drewN _ _ _
    by_cases hlt : j < n
    · obtain ⟨b, off, rfl, hbs, hcell⟩ := HI.out (by omega)
      obtain ⟨b2, off2, rfl, hbs2, hcell2⟩ := HJ.out (by omega)
      have hc := (hK.cell hbs (by simp) (off + j)).trans (hcell j hlt)
      have hc2 := (hK.cell hbs2 (by simp) (off2 + j)).trans (hcell2 j hlt)
      generalize L[j]?.getD 0 = x at hc hc2
      clear hcell hcell2
      go_wp2_with fail
      go_quiet (fail)
      go_wp2_with fail
      go_roundw
      case rel =>
        refine ⟨j + 1, by go_num, by omega, ?_⟩
        obtain ⟨m, e⟩ := hD.out
        exact ⟨m + nq, by rw [e, World.drewN_drewN]⟩
      case measure => simp [intOf]; omega
    · obtain rfl : j = n := by omega
      go_wp2
      go_ret
      exact ⟨rfl, hD.out⟩
theorem same_eq (ao bo : Option Addr) (n c d : Nat) (L : List Int) (w : World) (hA : IntsAt w ao L) (hB : IntsAt w bo L) (hn : L.length = n) (hb : n ≤ 1000000) :
    Calls Tryz.prog 12 #[.slice ao n c, .slice bo n d] w fun e w' => e = .returned (.bool true) ∧ Keep [] w w' := by
  refine (same_q ao bo n c d L w hA hB hn hb).mono ?_
  rintro e w' ⟨rfl, m, rfl⟩
  exact ⟨rfl, Keep.drewN _ _ _⟩

end Go.Proofs.YtgpidokklhjfdaaGreat
