/-
  What the fourth folder's own helper answers, and whether two lists of integers are the same.
-/
import Derived.Test.YtjjlolfhidehkaaSize
namespace Go.Proofs.Ytjjlolfhidehkaa
open Go.RowKit

theorem c5 : classI 5 = 2 := by decide
theorem b5 : blockI 5 = 8 := by decide
theorem p65 : pagesI 65 = 2 := by decide

set_option maxHeartbeats 400000 in
theorem awake4_any (w : World) :
    Calls Try.prog 7 #[] w fun e w' => e = .returned (.bool true) ∧ Keep [] w w' := by
  go_enter Try.func7, Try.ntmps7
  go_wp2_with (first | (go_at_call 11; refine (block_any _ _).mono ?_; rw [b5]; rintro e w1 ⟨rfl, hK1⟩) | (go_at_call 9; refine (class_any _ _).mono ?_; rw [c5]; rintro e w2 ⟨rfl, hK2⟩) | (go_at_call 16; refine (sizes_any _).mono ?_; rintro e w3 ⟨g, rfl, hr, hK3, hg⟩) | (go_at_call 12; refine (pages_any _ _).mono ?_; rw [p65]; rintro e w4 ⟨rfl, hK4⟩))
  go_ret
  exact ⟨rfl, ((hK1.trans hK2).trans hK3).trans hK4⟩

set_option maxHeartbeats 400000 in
theorem same_yes (ao bo : Option Addr) (n c d : Nat) (L : List Int) (w : World) (hA : IntsAt w ao L) (hB : IntsAt w bo L) (hn : L.length = n) (hb : n ≤ 1000000) :
    Calls Try.prog 15 #[.slice ao n c, .slice bo n d] w fun e w' => e = .returned (.bool true) ∧ Keep [] w w' := by
  have HI := (show Hid (0 < n → ∃ b off, ao = some ⟨b, off, none⟩ ∧ b < w.heap.size ∧ ∀ i, i < n → w.cell? ⟨b, off + i, none⟩ = some (.int .i64 (L[i]?.getD 0))) from fun h => by rw [← hn] at h ⊢; exact hA.cells h)
  have HJ := (show Hid (0 < n → ∃ b off, bo = some ⟨b, off, none⟩ ∧ b < w.heap.size ∧ ∀ i, i < n → w.cell? ⟨b, off + i, none⟩ = some (.int .i64 (L[i]?.getD 0))) from fun h => by rw [← hn] at h ⊢; exact hB.cells h)
  clear hA hB hn
  go_enter Try.func15, Try.ntmps15
  go_wp2
  go_loopw [5] (fun i wr => ∃ j : Nat, i = .int .i64 j ∧ j ≤ n ∧ Keep [] w wr) (fun i _ => n - (intOf i).toNat)
  case atStart => exact ⟨0, rfl, by omega, Keep.refl _ _⟩
  case round =>
    obtain ⟨j, rfl, hj, hK⟩ := hrel
    by_cases hlt : j < n
    · obtain ⟨b, off, rfl, hbs, hcell⟩ := HI.out (by omega)
      obtain ⟨b2, off2, rfl, hbs2, hcell2⟩ := HJ.out (by omega)
      have hc := (hK.cell hbs (by simp) (off + j)).trans (hcell j hlt)
      have hc2 := (hK.cell hbs2 (by simp) (off2 + j)).trans (hcell2 j hlt)
      generalize L[j]?.getD 0 = x at hc hc2
      clear hcell hcell2
      go_wp2_with fail
      go_quiet (fail)
      go_wp2_with fail
      go_roundw
      case rel => exact ⟨j + 1, by go_num, by omega, hK.trans (Keep.drewN _ _ _)⟩
      case measure => simp [intOf]; omega
    · obtain rfl : j = n := by omega
      go_wp2
      go_ret
      exact ⟨rfl, hK⟩

end Go.Proofs.Ytjjlolfhidehkaa
