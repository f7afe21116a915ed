/-
  SoftSums answers true, whatever it is given.
-/
import Derived.Test.YtlpdaekejfhmjaaSoft
import Derived.Test.YtlpdaekejfhmjaaLists
namespace Go.Proofs.Ytlpdaekejfhmjaa
open Go.RowKit

theorem sumU_all (L : List Int) (n : Nat) (h : L.length = n) : sumU (L.take n) = sumU L := by rw [List.take_of_length_le (by omega)]
theorem sumU_drop0 (L : List Int) : sumU (L.drop 0) = sumU L := rfl
theorem sumU_dropn (L : List Int) (n : Nat) (h : L.length = n) : sumU (L.drop n) = 0 := by rw [List.drop_of_length_le (by omega)]; rfl
theorem IntsAt.none0 (w : World) (ao : Option Addr) : IntsAt w ao [] := ⟨fun h => by simp at h, fun i => by simp, fun i => by simp⟩
/-- x is where one is, S later than c. -/
def At14 (c x S : Int) : Prop := I64 x ∧ upZ x = capM (upZ c + S)
theorem At14.start {c : Int} (h : I64 c) : At14 c c 0 := ⟨h, by rw [Int.add_zero, capM_le _ (upZ_i64 h).2]⟩
theorem At14.step {c x S y : Int} (h : At14 c x S) (_ : 0 ≤ S) : At14 c (laterI x [y]) (S + upZ y) := by
  obtain ⟨h1, h2⟩ := h
  have hl := later_le x [y]
  refine ⟨⟨by omega, hl.2⟩, ?_⟩
  rw [upZ_pos _ hl.1]
  unfold laterI
  rw [sumU_cons, sumU_nil, h2]
  have := upZ_of y
  have := upZ_of c
  unfold capM
  repeat' split
  all_goals omega

set_option maxRecDepth 100000 in
set_option maxHeartbeats 6400000 in
theorem sums_any (c : Int) (ao : Option Addr) (n ca : Nat) (L : List Int) (hc : I64 c) (w : World) (hn : n ≤ 9223372036854775807) (hL : ListAt w ao .i64 n L) :
    Calls Try.prog 6 #[.int .i64 c, .slice ao n ca] w fun e w' => e = .returned (.bool true) ∧ Keep [] w w' := by
  by_cases h40 : 40 < n
  · have hd : decide (40 < (n : Int)) = true := by rw [decide_eq_true_iff]; omega
    go_enter Try.func6, Try.ntmps6
    go_wp2_with fail
    refine (awake14_any _).mono ?_
    rintro e w8 ⟨rfl, hK8⟩
    go_wp2_with fail
    go_ret
    exact ⟨rfl, hK8⟩
  · have hd0 : decide (40 < (n : Int)) = false := by rw [decide_eq_false_iff_not]; omega
    have hn40 : n ≤ 40 := by omega
    have HN := (show Hid (L.length = n ∧ n ≤ 9223372036854775807) from ⟨hL.len, hn⟩)
    have HL := (show Hid (ListAt w ao .i64 n L) from hL)
    have HC := (show Hid (I64 c) from hc)
    clear hL hc hn
    go_enter Try.func6, Try.ntmps6
    go_wp2_with fail
    go_loopw [5, 6, 7] (fun va vb i wr => ∃ (j : Nat) (x y : Int), va = .int .i64 x ∧ vb = .int .i64 y ∧ i = .int .i64 j ∧ j ≤ n ∧ -9223372036854775808 ≤ x ∧ x ≤ 9223372036854775807 ∧ -9223372036854775808 ≤ y ∧ y ≤ 9223372036854775807 ∧ Hid (At14 c x (sumU (L.take j))) ∧ Hid (At14 c y (sumU (L.drop (n - j)))) ∧ Keep [] w wr) (fun _ _ i _ => n - (intOf i).toNat)
    case atStart =>
      have e : sumU (L.drop (n - 0)) = 0 := sumU_dropn L n HN.out.1
      exact ⟨0, c, c, rfl, rfl, rfl, by omega, HC.out.1, HC.out.2, HC.out.1, HC.out.2, At14.start HC.out, show At14 c c (sumU (L.drop (n - 0))) from e ▸ At14.start HC.out, Keep.refl _ _⟩
    case round =>
      obtain ⟨j, x, y, rfl, rfl, rfl, hj, hx1, hx2, hy1, hy2, HX, HY, hK⟩ := hrel
      by_cases hlt : j < n
      · obtain ⟨b, off, rfl, hbs, hcell⟩ := HL.out.cells (by omega)
        have hbw : b < wr.heap.size := Nat.lt_of_lt_of_le hbs hK.size
        obtain ⟨q, hq⟩ : ∃ q, n - 1 - j = q := ⟨_, rfl⟩
        have hqn : q < n := by omega
        obtain ⟨u, eu⟩ : ∃ u, L[j]?.getD 0 = u := ⟨_, rfl⟩
        obtain ⟨v, ev⟩ : ∃ v, L[q]?.getD 0 = v := ⟨_, rfl⟩
        have hcu := (hK.cell hbs (by simp) (off + j)).trans (hcell j hlt)
        have hcv := (hK.cell hbs (by simp) (off + q)).trans (hcell q hqn)
        have hbu := bounds_i64 (HL.out.wf j hlt)
        have hbv := bounds_i64 (HL.out.wf q hqn)
        rw [eu] at hcu hbu
        rw [ev] at hcv hbv
        have HX2 := (show Hid (At14 c (laterI x [u]) (sumU (L.take (j + 1)))) from by
          show At14 _ _ _
          rw [sumU_snoc L j (by rw [HN.out.1]; exact hlt), eu]
          exact HX.out.step (sumU_nonneg _))
        have HY2 := (show Hid (At14 c (laterI y [v]) (sumU (L.drop (n - (j + 1))))) from by
          show At14 _ _ _
          have e1 : n - (j + 1) = q := by omega
          have e2 : n - j = q + 1 := by omega
          have h2 := HY.out
          rw [e2] at h2
          rw [e1, sumU_back L q (by rw [HN.out.1]; exact hqn), ev, Int.add_comm]
          exact h2.step (sumU_nonneg _))
        have hqi : (n : Int) - 1 - (j : Int) = (q : Int) := by omega
        have HBV := (show Hid (-9223372036854775808 ≤ v ∧ v ≤ 9223372036854775807) from hbv)
        clear hcell eu ev HX HY hq
        go_wp2_with fail
        refine (later_any x _ 1 1 [u] _ ⟨hx1, hx2⟩ (IntsAt.single wr 3 u hbu.1 hbu.2) rfl (by omega)).mono ?_
        rintro e w1 ⟨rfl, hK1⟩
        have hK01 := (Keep.alloc [] wr _).trans hK1
        have hcv1 := (hK01.cell hbw (by simp) (off + q)).trans hcv
        have hl := later_le x [u]
        generalize laterI x [u] = x2 at *
        clear hcu hcv
        go_wp2_with fail
        refine (later_any y _ 1 1 [v] _ ⟨hy1, hy2⟩ (IntsAt.single w1 3 v HBV.out.1 HBV.out.2) rfl (by omega)).mono ?_
        rintro e w2 ⟨rfl, hK2⟩
        have hK02 := hK.trans (hK01.trans ((Keep.alloc [] w1 _).trans hK2))
        have hm := later_le y [v]
        generalize laterI y [v] = y2 at *
        clear hK1 hK01 hK2 hK hcv1 hqi
        go_wp2_with fail
        go_roundw
        case rel => exact ⟨j + 1, x2, y2, rfl, rfl, by go_num, by omega, by omega, hl.2, by omega, hm.2, HX2, HY2, hK02⟩
        case measure => simp [intOf]; omega
      · obtain rfl : j = n := by omega
        have hx := HX.out.2
        have hy := HY.out.2
        rw [sumU_all L j HN.out.1] at hx
        rw [Nat.sub_self, sumU_drop0] at hy
        have hI := HL.out.ints.keep hK (fun _ => by intro a _; simp)
        have HI := (show Hid (IntsAt wr ao L) from hI)
        obtain ⟨t, et⟩ : ∃ t, laterI c L = t := ⟨_, rfl⟩
        have HT := (show Hid (laterI c L = t) from et)
        have htx : (x < 0 ∧ t = 0) ∨ (0 ≤ x ∧ t = x) := by
          have e := upZ_of x
          rw [hx] at e
          unfold laterI at et
          omega
        have hty : (y < 0 ∧ t = 0) ∨ (0 ≤ y ∧ t = y) := by
          have e := upZ_of y
          rw [hy] at e
          unfold laterI at et
          omega
        have hcz : ∃ z, laterI c [] = z ∧ ((c < 0 ∧ z = 0) ∨ (0 ≤ c ∧ z = c)) := by
          refine ⟨_, rfl, ?_⟩
          rw [later_nil c HC.out]
          unfold upZ
          split <;> omega
        obtain ⟨z, ez, hcz⟩ := hcz
        have HZ := (show Hid (laterI c [] = z) from ez)
        clear hx hy HX HY hI et ez hj hlt
        rcases htx with ⟨htx, rfl⟩ | ⟨htx, rfl⟩ <;> rcases hty with ⟨hty, hty2⟩ | ⟨hty, hty2⟩
        all_goals
          rcases hcz with ⟨hcz, rfl⟩ | ⟨hcz, rfl⟩
        all_goals first | subst hty2 | skip
        all_goals
          go_wp2_with fail
          refine (later_any _ ao _ ca L _ HC.out HI.out HN.out.1 HN.out.2).mono ?_
          rw [HT.out]
          rintro e w1 ⟨rfl, hK1⟩
          go_wp2_with fail
          refine (later_any _ none 0 0 [] _ HC.out (IntsAt.none0 _ _) rfl (by omega)).mono ?_
          rw [HZ.out]
          rintro e w2 ⟨rfl, hK2⟩
          go_wp2_with fail
          refine (awake14_any _).mono ?_
          rintro e w3 ⟨rfl, hK3⟩
          go_wp2_with fail
          go_ret
          exact ⟨rfl, hK.trans ((hK1.trans hK2).trans hK3)⟩

end Go.Proofs.Ytlpdaekejfhmjaa

namespace Go.Proofs.Ytlpdaekejfhmjaa.softSums
theorem walk (a0 : Int) (o1 : Option Addr) (len1 cap1 : Nat) (A1 : List Int) (w0 : (Lit.int .i64 a0).wf = true) (w1 : len1 ≤ 9223372036854775807) (w : World) (u1 : ListAt w o1 .i64 len1 A1) :
    Calls Try.prog 6 #[.int .i64 a0, .slice o1 len1 cap1] w fun e w' => e = .returned (.bool true) ∧ Keep [] w w' :=
  sums_any a0 o1 len1 cap1 A1 (i64_wf w0) w w1 u1
end Go.Proofs.Ytlpdaekejfhmjaa.softSums
