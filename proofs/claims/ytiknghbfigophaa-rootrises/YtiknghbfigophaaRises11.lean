/-
  RootRises: what is merged rises, is above 0, and has each number of any list that is.
-/
import Derived.Test.YtiknghbfigophaaAwake11
import Derived.Test.YtiknghbfigophaaOpenLists
import Derived.Deep.CutRange
namespace Go.Proofs.Ytiknghbfigophaa.rootRises
open Go.RowKit

theorem flat40 {LL : List (List Int)} (h : ∀ L, L ∈ LL → L.length ≤ 40) : LL.flatten.length ≤ 40 * LL.length := by
  induction LL with
  | nil => simp
  | cons L LL ih =>
    have h1 := h L (by simp)
    have h2 := ih (fun L hL => h L (List.mem_cons_of_mem _ hL))
    simp only [List.flatten_cons, List.length_append, List.length_cons]
    omega
theorem mem_takeS {L : List Int} {k : Nat} {y : Int} (hk : k < L.length) (h : y ∈ L.take (k + 1)) : y ∈ L.take k ∨ L[k]?.getD 0 = y := by
  rw [takeM L k hk, List.mem_append, List.mem_singleton] at h
  exact h.imp id Eq.symm

set_option maxRecDepth 100000 in
set_option maxHeartbeats 8000000 in
theorem walk (ao : Option Addr) (n c : Nat) (LL : List (List Int)) (_ : n ≤ 9223372036854775807) (w : World) (u0 : LL.length = n ∧ ListsAt w ao LL) :
    Calls Try.prog 5 #[.slice ao n c] w fun e w' => e = .returned (.bool true) ∧ Keep [] w w' := by
  have HN := (show Hid (LL.length = n) from u0.1)
  have HL := (show Hid (ListsAt w ao LL) from u0.2)
  clear u0
  by_cases hn : 10 < n
  · have d1 : decide (10 < (n : Int)) = true := by rw [decide_eq_true_iff]; omega
    clear hn
    go_enter Try.func5, Try.ntmps5
    go_wp2_with (go_at_call 13; refine (awake11_any _).mono ?_; rintro e w13 ⟨rfl, hK13⟩)
    go_ret
    exact ⟨rfl, hK13⟩
  · have d1 : decide (10 < (n : Int)) = false := by rw [decide_eq_false_iff_not]; omega
    go_enter Try.func5, Try.ntmps5
    go_wp2_with fail
    go_loop [3] (fun i => ∃ j : Nat, i = .int .i64 j ∧ j ≤ n ∧ Hid (∀ t L, t < j → LL[t]? = some L → L.length ≤ 40)) (fun i => n - (intOf i).toNat)
    case atStart => exact ⟨0, rfl, by omega, fun t L h => by omega⟩
    case round =>
      obtain ⟨j, rfl, hj, HS⟩ := hrel
      by_cases hlt : j < n
      · obtain ⟨b, off, rfl, hb, hcs⟩ := HL.out.cells (by have := HN.out; omega)
        obtain ⟨L, hLj⟩ : ∃ L, LL[j]? = some L := ⟨_, List.getElem?_eq_getElem (by have := HN.out; omega)⟩
        obtain ⟨xa, xc, hc, hIA⟩ := hcs j L hLj
        have HLJ := (show Hid (LL[j]? = some L) from hLj)
        obtain ⟨m, hm⟩ : ∃ m, L.length = m := ⟨_, rfl⟩
        rw [hm] at hc
        have HM := (show Hid (L.length = m) from hm)
        clear hcs hLj hIA hm
        by_cases h40 : 40 < m
        · have d2 : decide (40 < (m : Int)) = true := by rw [decide_eq_true_iff]; omega
          clear h40
          go_wp2_with (go_at_call 13; refine (awake11_any _).mono ?_; rintro e w13 ⟨rfl, hK13⟩)
          go_ret
          exact ⟨rfl, hK13⟩
        · have d2 : decide (40 < (m : Int)) = false := by rw [decide_eq_false_iff_not]; omega
          have HS2 := (show Hid (∀ t L, t < j + 1 → LL[t]? = some L → L.length ≤ 40) from fun t L' ht he => by
            by_cases e : t = j
            · subst e
              rw [HLJ.out] at he
              cases he
              have := HM.out; omega
            · exact HS.out t L' (by omega) he)
          clear HS h40
          go_wp2_with fail
          go_round
          case rel => exact ⟨j + 1, by go_num, by omega, HS2⟩
          case measure => simp [intOf]; omega
      · obtain rfl : j = n := by omega
        obtain ⟨M, hM⟩ : ∃ M, mergeL LL.flatten = M := ⟨_, rfl⟩
        obtain ⟨q, hq⟩ : ∃ q, M.length = q := ⟨_, rfl⟩
        have HM := (show Hid (mergeL LL.flatten = M) from hM)
        have HQ := (show Hid (M.length = q) from hq)
        have HF := (show Hid (LL.flatten.length ≤ 400) from by
          have h1 := flat40 (LL := LL) (fun L hL => by
            obtain ⟨t, ht, rfl⟩ := List.mem_iff_getElem.1 hL
            exact HS.out t _ (by have := HN.out; omega) (List.getElem?_eq_getElem ht))
          have := HN.out
          show _ ≤ _
          omega)
        have hq4 : q ≤ 400 := by
          have h1 := mergeL_le LL.flatten
          have := HF.out
          rw [hM, hq] at h1; omega
        have HUP := (show Hid (∀ i j : Nat, i < j → j < q → M[i]?.getD 0 < M[j]?.getD 0) from fun i j hij hj => up_get (by rw [← hM]; exact mergeL_up _) hij (by omega))
        have HPOS := (show Hid (∀ j : Nat, j < q → 1 ≤ M[j]?.getD 0 ∧ M[j]?.getD 0 ∈ LL.flatten) from fun j hj => by
          have h1 : M[j]?.getD 0 ∈ M := by simp [show j < M.length by omega]
          rw [← hM, mergeL_mem] at h1
          rw [hM] at h1
          exact ⟨by omega, h1.1⟩)
        clear hM hq HS hlt
        go_wp2_with fail
        refine (merge_l ao j c q LL M w HL.out HN.out (by have := HF.out; omega) (by omega) HM.out HQ.out).mono ?_
        rintro e w1 ⟨va, vc, rfl, hN, hK⟩
        have HI := (show Hid (IntsAt w1 va M) from hN.at')
        have HK1 := (show Hid (Keep [] w w1) from hK)
        clear hN hK
        go_wp2_with fail
        go_loopw [5] (fun i wr => ∃ k : Nat, i = .int .i64 k ∧ k ≤ q ∧ Hid (Keep [] w1 wr)) (fun i _ => q - (intOf i).toNat)
        case atStart => exact ⟨0, rfl, by omega, Keep.refl _ _⟩
        case round =>
          obtain ⟨k, rfl, hk, HK2⟩ := hrel
          obtain ⟨w2, rfl⟩ : ∃ w2, w2 = wr := ⟨_, rfl⟩
          by_cases hkq : k < q
          · obtain ⟨vb, vo, rfl, hvb, hvc⟩ := HI.out.cells (by have := HQ.out; omega)
            have HCV := (show Hid (∀ (t : Nat) (w' : World), t < q → Keep [] w1 w' → w'.cell? ⟨vb, vo + t, none⟩ = some (.int .i64 (M[t]?.getD 0))) from fun t w' ht K => (K.cell hvb (by simp) _).trans (hvc t (by have := HQ.out; omega)))
            have hck := HCV.out k w2 hkq HK2.out
            obtain ⟨hy1, hy2⟩ := HPOS.out k hkq
            have hbd := HI.out.high k
            have HY := (show Hid (M[k]?.getD 0 ∈ LL.flatten) from hy2)
            have e1 : decide (M[k]?.getD 0 < 1) = false := by rw [decide_eq_false_iff_not]; omega
            have HPREV := (show Hid (0 < k → w2.cell? ⟨vb, vo + (k - 1), none⟩ = some (.int .i64 (M[k - 1]?.getD 0)) ∧ M[k - 1]?.getD 0 < M[k]?.getD 0) from fun h => ⟨HCV.out (k - 1) w2 (by omega) HK2.out, HUP.out (k - 1) k (by omega) hkq⟩)
            clear hvc hvb hy2
            obtain ⟨y, hy⟩ : ∃ y, M[k]?.getD 0 = y := ⟨_, rfl⟩
            rw [hy] at hck hy1 hbd HY e1 HPREV
            have HYE := (show Hid (M[k]?.getD 0 = y) from hy)
            clear hy
            go_upto_region 12 with fail
            go_cut [58] from 38 to 58 (fun v wz => v = .bool false ∧ Hid (Keep [] w1 wz))
            case first =>
              rcases Nat.eq_zero_or_pos k with rfl | hpos
              · have hq0 : (0 : Int) < (q : Int) := by omega
                rw [Nat.add_zero] at hck
                go_wp2_with fail
                go_quiet (fail)
                go_wp2_with fail
                go_meet
                exact ⟨rfl, (show Hid _ from HK2.out.trans (Keep.drewN _ _ _))⟩
              · obtain ⟨hcp, hlp⟩ := HPREV.out hpos
                generalize M[k - 1]?.getD 0 = z at *
                obtain ⟨k1, hk1⟩ : ∃ k1, k - 1 = k1 := ⟨_, rfl⟩
                rw [hk1] at hcp
                have hs1 : (k : Int) - 1 = (k1 : Int) := by omega
                have hlt1 : k1 < q := by omega
                have hlk1 : k1 < k := by omega
                have e3 : decide (y ≤ z) = false := by rw [decide_eq_false_iff_not]; omega
                have e2 : decide (0 < k) = true := by rw [decide_eq_true_iff]; omega
                clear hk1
                go_wp2_with fail
                go_quiet (fail)
                go_wp2_with fail
                go_meet
                exact ⟨rfl, (show Hid _ from HK2.out.trans (Keep.drewN _ _ _))⟩
            case rest =>
              obtain ⟨rfl, HK3⟩ := hcut
              obtain ⟨w3, rfl⟩ : ∃ w3, w3 = wc := ⟨_, rfl⟩
              clear HK2 HPREV hck e1
              go_wp2_with fail
              go_loopw [6, 7] (fun fv t wr => ∃ (kk : Nat) (fb : Bool), fv = .bool fb ∧ t = .int .i64 kk ∧ kk ≤ j ∧ Hid (y ∈ (LL.take kk).flatten → fb = true) ∧ Hid (Keep [] w1 wr)) (fun _ t _ => j - (intOf t).toNat)
              case atStart => exact ⟨0, false, rfl, rfl, by omega, (show Hid _ from by intro h; simp at h), HK3⟩
              case round =>
                obtain ⟨kk, fb, rfl, rfl, hkk, HFB, HK4⟩ := hrel
                obtain ⟨w4, rfl⟩ : ∃ w4, w4 = wr := ⟨_, rfl⟩
                by_cases hkn : kk < j
                · obtain ⟨b, off, rfl, hb, hcs⟩ := HL.out.cells (by have := HN.out; omega)
                  obtain ⟨L, hLj⟩ : ∃ L, LL[kk]? = some L := ⟨_, List.getElem?_eq_getElem (by have := HN.out; omega)⟩
                  obtain ⟨xa, xc, hc0, hIA⟩ := hcs kk L hLj
                  have HLJ := (show Hid (LL[kk]? = some L) from hLj)
                  have HIA := (show Hid (IntsAt w xa L) from hIA)
                  have HFL := (show Hid ((LL.take kk).flatten.length + L.length ≤ 400) from Nat.le_trans (flat_len LL kk L hLj) HF.out)
                  obtain ⟨m, hm⟩ : ∃ m, L.length = m := ⟨_, rfl⟩
                  rw [hm] at hc0
                  have HLM := (show Hid (L.length = m) from hm)
                  have HC0 := (show Hid (∀ w', Keep [] w1 w' → w'.cell? ⟨b, off + kk, none⟩ = some (.slice xa m xc)) from fun w' K => ((HK1.out.trans K).cell hb (by simp) _).trans hc0)
                  have hm4 : m ≤ 400 := by have h1 := HFL.out; have h2 := HLM.out; omega
                  have HFB0 := (show Hid (y ∈ (LL.take kk).flatten ++ L.take 0 → fb = true) from by rw [List.take_zero, List.append_nil]; exact HFB.out)
                  clear hcs hLj hc0 hIA hm HFB hb HFL
                  go_wp2_with fail
                  go_loopw [6, 8] (fun fv t wr => ∃ (jj : Nat) (fb : Bool), fv = .bool fb ∧ t = .int .i64 jj ∧ jj ≤ m ∧ Hid (y ∈ (LL.take kk).flatten ++ L.take jj → fb = true) ∧ Hid (Keep [] w1 wr)) (fun _ t _ => m - (intOf t).toNat)
                  case atStart => exact ⟨0, fb, rfl, rfl, by omega, HFB0, HK4⟩
                  case round =>
                    obtain ⟨jj, fb, rfl, rfl, hjj, HFB, HK5⟩ := hrel
                    obtain ⟨w5, rfl⟩ : ∃ w5, w5 = wr := ⟨_, rfl⟩
                    have hc0 := HC0.out w5 HK5.out
                    by_cases hjm : jj < m
                    · obtain ⟨xb, xo, rfl, hxb, hcell⟩ := HIA.out.cells (by have := HLM.out; omega)
                      have hjL : jj < L.length := by have := HLM.out; omega
                      have hcx := ((HK1.out.trans HK5.out).cell hxb (by simp) (xo + jj)).trans (hcell jj hjL)
                      have hcy := HCV.out k w5 hkq HK5.out
                      rw [HYE.out] at hcy
                      have HST := (show Hid (y ∈ (LL.take kk).flatten ++ L.take (jj + 1) → y ∈ (LL.take kk).flatten ++ L.take jj ∨ L[jj]?.getD 0 = y) from fun h => by
                        rcases List.mem_append.1 h with h | h
                        · exact .inl (List.mem_append.2 (.inl h))
                        · rcases mem_takeS hjL h with h | h
                          · exact .inl (List.mem_append.2 (.inr h))
                          · exact .inr h)
                      clear hcell hjL
                      generalize L[jj]?.getD 0 = z at *
                      cases fb with
                      | true =>
                        go_wp2_with fail
                        go_quiet (fail)
                        go_wp2_with fail
                        go_roundw
                        case rel => exact ⟨jj + 1, true, rfl, by go_num, by omega, (show Hid _ from fun _ => rfl), (show Hid _ from HK5.out.trans (Keep.drewN _ _ _))⟩
                        case measure => simp [intOf]; omega
                      | false =>
                        have HNX := (show Hid (y ∈ (LL.take kk).flatten ++ L.take (jj + 1) → (z == y) = true) from fun h => by
                          rcases HST.out h with h | h
                          · exact absurd (HFB.out h) (by decide)
                          · rw [beq_iff_eq]; exact h)
                        clear HST HFB
                        go_wp2_with fail
                        go_quiet (fail)
                        go_wp2_with fail
                        go_roundw
                        case rel => exact ⟨jj + 1, z == y, rfl, by go_num, by omega, HNX, (show Hid _ from HK5.out.trans (Keep.drewN _ _ _))⟩
                        case measure => simp [intOf]; omega
                    · obtain rfl : jj = m := by omega
                      have HFB2 := (show Hid (y ∈ (LL.take (kk + 1)).flatten → fb = true) from by
                        rw [flat_take LL kk L HLJ.out]
                        have h1 := HFB.out
                        rw [List.take_of_length_le (l := L) (by have := HLM.out; omega)] at h1
                        exact h1)
                      clear HFB HFB0 HLJ
                      go_wp2_with fail
                      go_roundw
                      case rel => exact ⟨kk + 1, fb, rfl, by go_num, by omega, HFB2, HK5⟩
                      case measure => simp [intOf]; omega
                · obtain rfl : kk = j := by omega
                  have hfb : fb = true := HFB.out (by rw [List.take_of_length_le (by have := HN.out; omega)]; exact HY.out)
                  subst hfb
                  clear HFB
                  go_wp2_with fail
                  go_roundw
                  case rel => exact ⟨k + 1, by go_num, by omega, HK4⟩
                  case measure => simp [intOf]; omega
          · obtain rfl : k = q := by omega
            clear HUP HPOS hkq
            go_wp2_with fail
            go_loopw [9] (fun t wr => ∃ kk : Nat, t = .int .i64 kk ∧ kk ≤ j ∧ Hid (Keep [] w1 wr)) (fun t _ => j - (intOf t).toNat)
            case atStart => exact ⟨0, rfl, by omega, HK2⟩
            case round =>
              obtain ⟨kk, rfl, hkk, HK4⟩ := hrel
              obtain ⟨w4, rfl⟩ : ∃ w4, w4 = wr := ⟨_, rfl⟩
              by_cases hkn : kk < j
              · obtain ⟨b, off, rfl, hb, hcs⟩ := HL.out.cells (by have := HN.out; omega)
                obtain ⟨L, hLj⟩ : ∃ L, LL[kk]? = some L := ⟨_, List.getElem?_eq_getElem (by have := HN.out; omega)⟩
                obtain ⟨xa, xc, hc0, hIA⟩ := hcs kk L hLj
                have HLJ := (show Hid (∀ x, x ∈ L → x ∈ LL.flatten) from fun x hx => List.mem_flatten.2 ⟨L, List.mem_of_getElem? hLj, hx⟩)
                have HIA := (show Hid (IntsAt w xa L) from hIA)
                have HFL := (show Hid ((LL.take kk).flatten.length + L.length ≤ 400) from Nat.le_trans (flat_len LL kk L hLj) HF.out)
                obtain ⟨m, hm⟩ : ∃ m, L.length = m := ⟨_, rfl⟩
                rw [hm] at hc0
                have HLM := (show Hid (L.length = m) from hm)
                have HC0 := (show Hid (∀ w', Keep [] w1 w' → w'.cell? ⟨b, off + kk, none⟩ = some (.slice xa m xc)) from fun w' K => ((HK1.out.trans K).cell hb (by simp) _).trans hc0)
                have hm4 : m ≤ 400 := by have h1 := HFL.out; have h2 := HLM.out; omega
                clear hcs hLj hc0 hIA hm hb HFL
                go_wp2_with fail
                go_loopw [10] (fun t wr => ∃ jj : Nat, t = .int .i64 jj ∧ jj ≤ m ∧ Hid (Keep [] w1 wr)) (fun t _ => m - (intOf t).toNat)
                case atStart => exact ⟨0, rfl, by omega, HK4⟩
                case round =>
                  obtain ⟨jj, rfl, hjj, HK5⟩ := hrel
                  obtain ⟨w5, rfl⟩ : ∃ w5, w5 = wr := ⟨_, rfl⟩
                  have hc0 := HC0.out w5 HK5.out
                  by_cases hjm : jj < m
                  · obtain ⟨xb, xo, rfl, hxb, hcell⟩ := HIA.out.cells (by have := HLM.out; omega)
                    have hjL : jj < L.length := by have := HLM.out; omega
                    have HCX := (show Hid (∀ w', Keep [] w1 w' → w'.cell? ⟨xb, xo + jj, none⟩ = some (.int .i64 (L[jj]?.getD 0))) from fun w' K => ((HK1.out.trans K).cell hxb (by simp) _).trans (hcell jj hjL))
                    have hcx := HCX.out w5 HK5.out
                    have HXM := (show Hid (¬ L[jj]?.getD 0 < 1 → L[jj]?.getD 0 ∈ M) from fun h => by
                      rw [← HM.out, mergeL_mem]
                      exact ⟨HLJ.out _ (by simp [hjL]), by omega⟩)
                    clear hcell hjL
                    generalize L[jj]?.getD 0 = x at *
                    have HF0 := (show Hid (x ∈ M.take 0 ∨ x < 1 → decide (x < 1) = true) from by
                      rintro (h | h)
                      · simp at h
                      · rw [decide_eq_true_iff]; exact h)
                    go_wp2_with fail
                    go_loopw [11, 12] (fun fv t wr => ∃ (ii : Nat) (fb : Bool), fv = .bool fb ∧ t = .int .i64 ii ∧ ii ≤ k ∧ Hid (x ∈ M.take ii ∨ x < 1 → fb = true) ∧ Hid (Keep [] w1 wr)) (fun _ t _ => k - (intOf t).toNat)
                    case atStart => exact ⟨0, _, rfl, rfl, by omega, HF0, HK5⟩
                    case round =>
                      obtain ⟨ii, fb, rfl, rfl, hii, HFB, HK6⟩ := hrel
                      obtain ⟨w6, rfl⟩ : ∃ w6, w6 = wr := ⟨_, rfl⟩
                      by_cases hik : ii < k
                      · obtain ⟨vb, vo, rfl, hvb, hvc⟩ := HI.out.cells (by have := HQ.out; omega)
                        have hcy := (HK6.out.cell hvb (by simp) (vo + ii)).trans (hvc ii (by have := HQ.out; omega))
                        have hcx6 := HCX.out w6 HK6.out
                        have hc6 := HC0.out w6 HK6.out
                        have HST := (show Hid (x ∈ M.take (ii + 1) → x ∈ M.take ii ∨ M[ii]?.getD 0 = x) from fun h => mem_takeS (by have := HQ.out; omega) h)
                        clear hvc
                        generalize M[ii]?.getD 0 = z at *
                        cases fb with
                        | true =>
                          go_wp2_with fail
                          go_quiet (fail)
                          go_wp2_with fail
                          go_roundw
                          case rel => exact ⟨ii + 1, true, rfl, by go_num, by omega, (show Hid _ from fun _ => rfl), (show Hid _ from HK6.out.trans (Keep.drewN _ _ _))⟩
                          case measure => simp [intOf]; omega
                        | false =>
                          have HNX := (show Hid (x ∈ M.take (ii + 1) ∨ x < 1 → (z == x) = true) from fun h => by
                            rcases h with h | h
                            · rcases HST.out h with h | h
                              · exact absurd (HFB.out (.inl h)) (by decide)
                              · rw [beq_iff_eq]; exact h
                            · exact absurd (HFB.out (.inr h)) (by decide))
                          clear HST HFB
                          go_wp2_with fail
                          go_quiet (fail)
                          go_wp2_with fail
                          go_roundw
                          case rel => exact ⟨ii + 1, z == x, rfl, by go_num, by omega, HNX, (show Hid _ from HK6.out.trans (Keep.drewN _ _ _))⟩
                          case measure => simp [intOf]; omega
                      · obtain rfl : ii = k := by omega
                        have hfb : fb = true := HFB.out (by
                          by_cases hx1 : x < 1
                          · exact .inr hx1
                          · left
                            rw [List.take_of_length_le (by have := HQ.out; omega)]
                            exact HXM.out (by omega))
                        subst hfb
                        clear HFB HXM HF0
                        go_wp2_with fail
                        go_roundw
                        case rel => exact ⟨jj + 1, by go_num, by omega, HK6⟩
                        case measure => simp [intOf]; omega
                  · obtain rfl : jj = m := by omega
                    go_wp2_with fail
                    go_roundw
                    case rel => exact ⟨kk + 1, by go_num, by omega, HK5⟩
                    case measure => simp [intOf]; omega
              · obtain rfl : kk = j := by omega
                go_wp2_with (go_at_call 13; refine (awake11_any _).mono ?_; rintro e w13 ⟨rfl, hK13⟩)
                go_ret
                exact ⟨rfl, (HK1.out.trans HK4.out).trans hK13⟩

end Go.Proofs.Ytiknghbfigophaa.rootRises
