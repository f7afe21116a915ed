/-
  In of the document's own words: what it answers.
-/
import Derived.Test.YtgpidokklhjfdaaRows
import Derived.Test.YtgpidokklhjfdaaPart1
import Derived.Test.YtgpidokklhjfdaaPart5
namespace Go.Proofs.Ytgpidokklhjfdaa
open Go.RowKit

/-- Whether a number is of a list. -/
def inL (L : List Int) (x : Int) : Bool := decide (x ∈ L)
theorem inL_yes {L : List Int} {x : Int} {j : Nat} (h : j < L.length) (e : L[j]?.getD 0 = x) : inL L x = true := by
  apply decide_eq_true
  rw [List.getElem?_eq_getElem h] at e
  simp at e
  subst e
  exact List.getElem_mem h
theorem inL_no {L : List Int} {x : Int} (h : ∀ j, j < L.length → L[j]?.getD 0 ≠ x) : inL L x = false := by
  apply decide_eq_false
  intro e
  obtain ⟨j, hj, e⟩ := List.getElem_of_mem e
  apply h j hj
  rw [List.getElem?_eq_getElem hj, e]; rfl
set_option maxHeartbeats 1600000 in
theorem rin (la : Option Addr) (n c : Nat) (L : List Int) (x : Int) (w : World) (hA : IntsAt w la L) (hn : L.length = n) (hb : n ≤ 1000000) :
    Calls Try.prog 24 #[.slice la n c, .int .i64 x] w fun e w' => e = .returned (.bool (inL L x)) ∧ w = w' := by
  have HA := hid hA
  have HN := hid hn
  clear hA hn
  go_enter Try.func24, Try.ntmps24
  go_wp2_with fail
  go_loop [5] (fun i => ∃ j : Nat, i = .int .i64 j ∧ j ≤ n ∧ Hid (∀ t, t < j → L[t]?.getD 0 ≠ x)) (fun i => n - (intOf i).toNat)
  case atStart => exact ⟨0, rfl, by omega, fun t ht => by omega⟩
  case round =>
    obtain ⟨j, rfl, hj, HJ⟩ := hrel
    by_cases hlt : j < n
    · have hd : decide (j < n) = true := decide_eq_true hlt
      obtain ⟨b, off, rfl, _, hcs⟩ := HA.out.cells (by have := HN.out; omega)
      have hc := hcs j (by have := HN.out; omega)
      have HY := (show Hid (L[j]?.getD 0 = x → inL L x = true) from fun e => inL_yes (by have := HN.out; omega) e)
      have HJ2 := (show Hid (L[j]?.getD 0 ≠ x → ∀ t, t < j + 1 → L[t]?.getD 0 ≠ x) from fun e t ht => by
        by_cases h : t < j
        · exact HJ.out t h
        · obtain rfl : t = j := by omega
          exact e)
      clear hcs
      generalize L[j]?.getD 0 = y at *
      by_cases hy : y = x
      · have hd2 : (y == x) = true := by rw [beq_iff_eq]; exact hy
        have HZ := (show Hid (inL L x = true) from HY.out hy)
        clear HY HJ2 hy
        go_wp2_with fail
        go_ret
        rw [HZ.out]; exact ⟨rfl, rfl⟩
      · have hd2 : (y == x) = false := by rw [beq_eq_false_iff_ne]; exact hy
        have HJ3 := (show Hid _ from HJ2.out hy)
        clear HY HJ2 hy
        go_wp2_with fail
        go_round
        case rel => exact ⟨j + 1, by go_num, by omega, HJ3⟩
        case measure => simp [intOf]; omega
    · obtain rfl : j = n := by omega
      have hd : decide (j < j) = false := decide_eq_false (by omega)
      have HZ := (show Hid (inL L x = false) from inL_no (fun t ht => HJ.out t (by have := HN.out; omega)))
      go_wp2_with fail
      go_ret
      rw [HZ.out]; exact ⟨rfl, rfl⟩

end Go.Proofs.Ytgpidokklhjfdaa
