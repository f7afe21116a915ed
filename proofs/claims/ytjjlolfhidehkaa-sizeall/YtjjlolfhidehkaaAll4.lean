/-
  SizeAll answers true, whatever it is given.
-/
import Derived.Test.YtjjlolfhidehkaaAwake4
import Derived.Test.YtjjlolfhidehkaaLists
namespace Go.Proofs.Ytjjlolfhidehkaa
open Go.RowKit

theorem IntsAt.none (w : World) (ao : Option Addr) : IntsAt w ao [] := ⟨fun h => by simp at h, fun i => by simp, fun i => by simp⟩
theorem Row.sizes {w : World} {t : TypeId} {g : Nat} (h : Row w t g sizesL) : IntsAt w (some ⟨g, 0, .none⟩) sizesL :=
  ⟨fun _ => ⟨g, 0, rfl, h.lt, fun i hi => by rw [Nat.zero_add]; exact h.cell hi⟩, fun i => by have := sizes_le i; omega, fun i => by have := sizes_le i; omega⟩

set_option maxRecDepth 100000 in
set_option maxHeartbeats 1600000 in
theorem all_any (n : Int) (ao : Option Addr) (m c : Nat) (L : List Int) (w : World) (hI : IntsAt w ao L) (hm : L.length = m) (hmm : m ≤ 9223372036854775807) :
    Calls Try.prog 3 #[.int .i64 n, .slice ao m c] w fun e w' => e = .returned (.bool true) ∧ Keep [] w w' := by
  by_cases h100 : 100 < m
  · go_enter Try.func3, Try.ntmps3
    go_wp2_with (go_at_call 7; refine (awake4_any _).mono ?_; rintro e w8 ⟨rfl, hK8⟩)
    go_ret
    exact ⟨rfl, hK8⟩
  · have HI := (show Hid (IntsAt w ao L) from hI)
    have HN := (show Hid (L.length = m) from hm)
    clear hI hm hmm
    go_enter Try.func3, Try.ntmps3
    go_wp2
    go_loopw [5, 6] (fun s i wr => ∃ (j : Nat) (z : Int), s = .int .i64 z ∧ i = .int .i64 j ∧ j ≤ m ∧ 0 ≤ z ∧ z ≤ 1024 * (j : Int) ∧ Hid (sumB (L.take j) = z) ∧ Keep [] w wr) (fun _ i _ => m - (intOf i).toNat)
    case atStart => exact ⟨0, 0, rfl, rfl, by omega, by omega, by omega, show sumB (L.take 0) = 0 from rfl, Keep.refl _ _⟩
    case round =>
      obtain ⟨j, z, rfl, rfl, hj, hz1, hz2, HZ, hK⟩ := hrel
      by_cases hlt : j < m
      · obtain ⟨b, off, rfl, hbs, hcell⟩ := HI.out.cells (by rw [HN.out]; omega)
        obtain ⟨x, hx⟩ : ∃ x, L[j]?.getD 0 = x := ⟨_, rfl⟩
        have hc := (hK.cell hbs (by simp) (off + j)).trans (hcell j (by rw [HN.out]; exact hlt))
        rw [hx] at hc
        have hbx := block_le x
        have HS := (show Hid (sumB (L.take (j + 1)) = z + blockI x) by
          show _ = _
          rw [take_snoc L j (by rw [HN.out]; exact hlt), sumB_snoc, HZ.out, hx])
        clear hcell hx
        go_wp2_with (first | (go_at_call 8; refine (rblock_any _ _).mono ?_; rintro e w2 ⟨rfl, hK2⟩))
        go_roundw
        case rel => exact ⟨j + 1, z + blockI x, by go_num, by go_num, by omega, by omega, by omega, HS, hK.trans hK2⟩
        case measure => simp [intOf]; omega
      · obtain rfl : j = m := by omega
        have HS := (show Hid (sumB L = z) by
          show _ = _
          rw [← HZ.out, List.take_of_length_le (by rw [HN.out]; omega)])
        have hL2 := HI.out.keep hK (fun _ => by intro a _; simp)
        go_wp2_with fail
        refine (class_any n _).mono ?_
        rintro e w1 ⟨rfl, hK1⟩
        go_wp2_with fail
        refine (rclass_any n _).mono ?_
        rintro e w2 ⟨rfl, hK2⟩
        go_wp2_with fail
        refine (block_any n _).mono ?_
        rintro e w3 ⟨rfl, hK3⟩
        go_wp2_with fail
        refine (rblock_any n _).mono ?_
        rintro e w4 ⟨rfl, hK4⟩
        go_wp2_with fail
        refine (pages_any n _).mono ?_
        rintro e w5 ⟨rfl, hK5⟩
        go_wp2_with fail
        refine (rpages_any n _).mono ?_
        rintro e w6 ⟨rfl, hK6⟩
        have hK16 := ((((hK1.trans hK2).trans hK3).trans hK4).trans hK5).trans hK6
        have hL3 := hL2.keep hK16 (fun _ => by intro a _; simp)
        go_wp2_with fail
        refine (sum_any ao _ c L _ hL3 HN.out (by omega)).mono ?_
        rw [HS.out]
        rintro e w7 ⟨rfl, hK7⟩
        go_wp2_with fail
        refine (sum_any .none 0 0 [] _ (IntsAt.none _ _) rfl (by omega)).mono ?_
        rw [sumB_nil]
        rintro e w8 ⟨rfl, hK8⟩
        go_wp2_with fail
        refine (sizes_any _).mono ?_
        rintro e w9 ⟨g1, rfl, hr1, hK9, hg1⟩
        go_wp2_with fail
        refine (rsizes_any _).mono ?_
        rintro e w10 ⟨g2, rfl, hr2, hK10, hg2⟩
        have hr3 := hr1.keep hK10 (by simp)
        go_wp2_with fail
        refine (same_yes _ _ 5 5 5 _ _ hr3.sizes hr2.sizes rfl (by omega)).mono ?_
        rintro e w11 ⟨rfl, hK11⟩
        go_wp2_with fail
        refine (awake4_any _).mono ?_
        rintro e w12 ⟨rfl, hK12⟩
        go_wp2_with fail
        go_ret
        exact ⟨rfl, ((((((hK.trans hK16).trans hK7).trans hK8).trans hK9).trans hK10).trans hK11).trans hK12⟩

end Go.Proofs.Ytjjlolfhidehkaa

namespace Go.Proofs.Ytjjlolfhidehkaa.sizeAll
theorem walk (a0 : Int) (o1 : Option Addr) (len1 cap1 : Nat) (A1 : List Int) (_ : (Lit.int .i64 a0).wf = true) (w1 : len1 ≤ 9223372036854775807) (w : World) (u1 : ListAt w o1 .i64 len1 A1) :
    Calls Try.prog 3 #[.int .i64 a0, .slice o1 len1 cap1] w fun e w' => e = .returned (.bool true) ∧ Keep [] w w' :=
  all_any a0 o1 len1 cap1 A1 w u1.ints u1.len w1
end Go.Proofs.Ytjjlolfhidehkaa.sizeAll
