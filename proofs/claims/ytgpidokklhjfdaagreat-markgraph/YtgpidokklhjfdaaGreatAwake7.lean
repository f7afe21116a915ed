/-
  What the seventh folder's own helpers answer, whether a class may be as the document says it, and whether two lists of integers are the same.
-/
import Derived.Test.YtgpidokklhjfdaaGreatPart3
import Derived.Test.YtgpidokklhjfdaaGreatSame
namespace Go.Proofs.YtgpidokklhjfdaaGreat
open Go.RowKit

theorem err7 (x : Int) (w : World) : Calls Tryz.prog 7 #[.int .i64 x] w fun e w' => e = .returned (.int .i64 x) ∧ w = w' := by
  go_enter Tryz.func7, Tryz.ntmps7
  go_wp2
  go_ret
  exact ⟨rfl, rfl⟩

theorem aw_n : addN [] 2 [0] = 1 := by decide
theorem aw_e : addE [] 2 [0] = 0 := by decide
theorem aw_r : addR [] 2 [0] = [(2, [0])] := by decide
set_option maxHeartbeats 1600000 in
theorem rmay_any (f : Int) (ao : Option Addr) (n c : Nat) (L : List Int) (w : World) (hA : IntsAt w ao L) (hn : L.length = n) (hb : n ≤ 1000000) :
    Calls Tryz.prog 60 #[.agg #[.int .i64 f, .slice ao n c]] w fun e w' => e = .returned (.bool (mayB f L)) ∧ Keep [] w w' := by
  have hK1 := Keep.alloc [] w (.cells #[.int .i64 f, .slice ao n c] 76)
  by_cases hf : 0 ≤ f ∧ f ≤ 1023
  · obtain ⟨hf1, hf2⟩ := hf
    have hd1 : decide (f < 0) = false := by rw [decide_eq_false_iff_not]; omega
    have HI := (show Hid (0 < n → ∃ b off, ao = some ⟨b, off, none⟩ ∧ b < w.heap.size ∧ ∀ i, i < n → w.cell? ⟨b, off + i, none⟩ = some (.int .i64 (L[i]?.getD 0))) from fun h => by rw [← hn] at h ⊢; exact hA.cells h)
    have HA := (show Hid (IntsAt w ao L) from hA)
    have HN := (show Hid (L.length = n) from hn)
    clear hA hn
    have hx1 := heap_alloc_new w (.cells #[.int .i64 f, .slice ao n c] 76)
    go_enter Tryz.func60, Tryz.ntmps60
    go_wp2
    generalize w.alloc (.cells #[.int .i64 f, .slice ao n c] 76) = w1 at *
    obtain ⟨bx, hbx⟩ : ∃ bx, w.heap.size = bx := ⟨_, rfl⟩
    rw [hbx] at hx1 ⊢
    clear hbx
    go_loopw [3] (fun i wr => ∃ j : Nat, i = .int .i64 j ∧ j ≤ n ∧ (∀ i, i < j → okAt f L i) ∧ Keep [] w1 wr) (fun i _ => n - (intOf i).toNat)
    case atStart => exact ⟨0, rfl, by omega, fun i h => by omega, Keep.refl _ _⟩
    case round =>
      obtain ⟨j, rfl, hj, hok, hK⟩ := hrel
      have HO := (show Hid (∀ i, i < j → okAt f L i) from hok)
      have hx2 := hK.blk hx1 (by simp)
      have c0 : wr.cell? ⟨bx, 0, none⟩ = some (.int .i64 f) := by simp [World.cell?, hx2]
      have c1 : wr.cell? ⟨bx, 1, none⟩ = some (.slice ao n c) := by simp [World.cell?, hx2]
      have hKe := hK1.trans hK
      clear hok hx2
      by_cases hlt : j < n
      · obtain ⟨b, off, rfl, hbs, hcell⟩ := HI.out (by omega)
        have hc := (hKe.cell hbs (by simp) (off + j)).trans (hcell j hlt)
        have hbr := And.intro (HA.out.low j) (HA.out.high j)
        have hb0 : (0 : Int) ≤ (j : Int) := by omega
        have hb1 : (j : Int) < n := by omega
        obtain ⟨x, hx⟩ : ∃ x, L[j]?.getD 0 = x := ⟨_, rfl⟩
        have HX := (show Hid (L[j]?.getD 0 = x) from hx)
        rw [hx] at hc hbr
        clear hx
        by_cases h1 : x < 0
        · have HM := (show Hid (mayB f L = false) from mayB_no j (by rw [HN.out]; exact hlt) (fun k => by have := k.1; rw [HX.out] at this; omega))
          have hd2 : decide (x < 0) = true := decide_eq_true h1
          clear hcell
          go_wp2_with fail
          go_quiet (fail)
          go_wp2_with fail
          go_ret
          rw [HM.out]; exact ⟨rfl, hKe.trans (Keep.drewN _ _ _)⟩
        · have hd2 : decide (x < 0) = false := decide_eq_false h1
          by_cases h2 : f ≤ x
          · have HM := (show Hid (mayB f L = false) from mayB_no j (by rw [HN.out]; exact hlt) (fun k => by have := k.2.1; rw [HX.out] at this; omega))
            have hd3 : decide (f ≤ x) = true := decide_eq_true h2
            clear hcell
            go_wp2_with fail
            go_quiet (fail)
            go_wp2_with fail
            go_ret
            rw [HM.out]; exact ⟨rfl, hKe.trans (Keep.drewN _ _ _)⟩
          · have hd3 : decide (f ≤ x) = false := decide_eq_false h2
            rcases Nat.eq_zero_or_pos j with h0 | h0
            · have HO2 := (show Hid (∀ i, i < j + 1 → okAt f L i) from fun i hi => by
                obtain rfl : i = j := by omega
                exact ⟨by rw [HX.out]; omega, by rw [HX.out]; omega, fun h => by omega⟩)
              subst h0
              rw [Nat.add_zero] at hc
              have hb4 : (0 : Int) < (n : Int) := by omega
              clear hcell hb0 hb1
              go_wp2_with fail
              go_quiet (fail)
              go_wp2_with fail
              go_roundw
              case rel => exact ⟨0 + 1, by go_num, by omega, HO2.out, hK.trans (Keep.drewN _ _ _)⟩
              case measure => simp [intOf]; omega
            · obtain ⟨j1, hj1⟩ : ∃ j1, j1 = j - 1 := ⟨_, rfl⟩
              have hc2 := (hKe.cell hbs (by simp) (off + j1)).trans (hcell j1 (by omega))
              have hd4 : decide ((0 : Int) < (j : Int)) = true := by rw [decide_eq_true_iff]; omega
              obtain ⟨y, hy⟩ : ∃ y, L[j1]?.getD 0 = y := ⟨_, rfl⟩
              have HY := (show Hid (L[j - 1]?.getD 0 = y) from by rw [← hj1]; exact hy)
              rw [hy] at hc2
              have hji : (j : Int) - 1 = j1 := by omega
              have hb2 : (0 : Int) ≤ (j1 : Int) := by omega
              have hb3 : (j1 : Int) < n := by omega
              have hj1w : IntKind.i64.wrap ((j : Int) - 1) = j1 := by rw [hji]; exact IntWalk.i64_in _ (by omega)
              have hj1w2 : IntKind.i64.wrap (j1 : Int) = j1 := IntWalk.i64_in _ (by omega)
              clear hcell hy
              by_cases h5 : x ≤ y
              · have HM := (show Hid (mayB f L = false) from mayB_no j (by rw [HN.out]; exact hlt) (fun k => by have := k.2.2 h0; rw [HX.out, HY.out] at this; omega))
                have hd5 : decide (x ≤ y) = true := decide_eq_true h5
                clear hj1
                go_wp2_with fail
                go_quiet (fail)
                go_wp2_with fail
                go_ret
                rw [HM.out]; exact ⟨rfl, hKe.trans (Keep.drewN _ _ _)⟩
              · have HO2 := (show Hid (∀ i, i < j + 1 → okAt f L i) from fun i hi => by
                  rcases Nat.lt_or_ge i j with h | h
                  · exact HO.out i h
                  · obtain rfl : i = j := by omega
                    exact ⟨by rw [HX.out]; omega, by rw [HX.out]; omega, fun _ => by rw [HX.out, HY.out]; omega⟩)
                have hd5 : decide (x ≤ y) = false := decide_eq_false h5
                clear hj1
                go_wp2_with fail
                go_quiet (fail)
                go_wp2_with fail
                go_roundw
                case rel => exact ⟨j + 1, by go_num, by omega, HO2.out, hK.trans (Keep.drewN _ _ _)⟩
                case measure => simp [intOf]; omega
      · obtain rfl : j = n := by omega
        have HM := (show Hid (mayB f L = true) from mayB_yes hf1 hf2 (by rw [HN.out]; exact HO.out))
        go_wp2
        go_ret
        rw [HM.out]; exact ⟨rfl, hKe⟩
  · rw [mayB_low hf]
    by_cases h0 : f < 0
    · go_enter Tryz.func60, Tryz.ntmps60
      go_wp2
      go_ret
      exact ⟨rfl, hK1⟩
    · have hd1 : decide (f < 0) = false := by rw [decide_eq_false_iff_not]; omega
      have h2 : 1023 < f := by omega
      clear hf
      go_enter Tryz.func60, Tryz.ntmps60
      go_wp2
      go_ret
      exact ⟨rfl, hK1⟩

end Go.Proofs.YtgpidokklhjfdaaGreat
