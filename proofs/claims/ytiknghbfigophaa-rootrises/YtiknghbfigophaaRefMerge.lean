/-
  The document's own merge of a list of lists.
-/
import Derived.Test.YtiknghbfigophaaWith
import Derived.Test.YtiknghbfigophaaMergeC
namespace Go.Proofs.Ytiknghbfigophaa
open Go.RowKit

theorem flat_bd {w : World} {ao : Option Addr} {LL : List (List Int)} (h : ListsAt w ao LL) : ∀ x, x ∈ LL.flatten → -9223372036854775808 ≤ x ∧ x ≤ 9223372036854775807 := by
  intro x hx
  obtain ⟨L, hL, hxL⟩ := List.mem_flatten.1 hx
  obtain ⟨i, hi, rfl⟩ := List.mem_iff_getElem.1 hL
  obtain ⟨j, hj, rfl⟩ := List.mem_iff_getElem.1 hxL
  obtain ⟨b, off, _, _, hc⟩ := h.cells (by omega)
  obtain ⟨_, _, _, h1⟩ := hc i _ (List.getElem?_eq_getElem hi)
  have h2 := h1.low j
  have h3 := h1.high j
  simpa [hj] using And.intro h2 h3
theorem foldW_bd {M : List Int} (h : ∀ x, x ∈ M → -9223372036854775808 ≤ x ∧ x ≤ 9223372036854775807) : ∀ i : Nat, -9223372036854775808 ≤ (foldW M)[i]?.getD 0 ∧ (foldW M)[i]?.getD 0 ≤ 9223372036854775807 := by
  intro i
  by_cases hi : i < (foldW M).length
  · have hm : (foldW M)[i]?.getD 0 ∈ foldW M := by simp [hi]
    exact h _ ((foldW_mem M _).1 hm)
  · rw [List.getElem?_eq_none (by omega)]; simp
theorem pos_bd {LL : List (List Int)} {P : List Int} (h : ∀ x, x ∈ LL.flatten → -9223372036854775808 ≤ x ∧ x ≤ 9223372036854775807) (hP : ∀ x, x ∈ P → x ∈ LL.flatten) : ∀ x, x ∈ posL P → -9223372036854775808 ≤ x ∧ x ≤ 9223372036854775807 :=
  fun x hx => h x (hP x ((posL_mem _ _).1 hx).1)

set_option maxRecDepth 100000 in
set_option maxHeartbeats 8000000 in
theorem rmerge (ao : Option Addr) (n c : Nat) (LL : List (List Int)) (w : World) (h : ListsAt w ao LL) (hn : LL.length = n) (hf : LL.flatten.length ≤ 100000) (hn2 : n ≤ 100000) :
    Calls Try.prog 15 #[.slice ao n c] w fun e w' => ∃ v q, e = .returned v ∧ w'.ownsRow w.heap.size 3 1 v q (ints (mergeL LL.flatten)) ∧ Keep [] w w' := by
  have HL := (show Hid (ListsAt w ao LL) from h)
  have HN := (show Hid (LL.length = n) from hn)
  have HF := (show Hid (LL.flatten.length ≤ 100000) from hf)
  have HB := (show Hid (∀ x, x ∈ LL.flatten → -9223372036854775808 ≤ x ∧ x ≤ 9223372036854775807) from flat_bd h)
  clear h hn hf
  go_enter Try.func15, Try.ntmps15
  go_wp2_with fail
  go_loopw [3, 4] (fun v i wr => ∃ (j q : Nat) (vv : Value), vv = v ∧ j ≤ n ∧ q ≤ 100000 ∧ i = .int .i64 j ∧ Hid (wr.ownsRow w.heap.size 3 1 v q (ints (foldW (posL (LL.take j).flatten)))) ∧ Keep [] w wr) (fun _ i _ => n - (intOf i).toNat)
  case atStart => exact ⟨0, 0, _, rfl, by omega, by omega, rfl, World.ownsRow_nil _ _ _ _, Keep.refl _ _⟩
  case round =>
    obtain ⟨j, q, v, hvv, hj, hq, rfl, HO, hK⟩ := hrel
    obtain ⟨w1, rfl⟩ : ∃ w1, w1 = wr := ⟨_, rfl⟩
    subst hvv
    by_cases hlt : j < n
    · obtain ⟨b, off, rfl, hb, hcs⟩ := HL.out.cells (by have := HN.out; omega)
      obtain ⟨L, hLj⟩ : ∃ L, LL[j]? = some L := ⟨_, List.getElem?_eq_getElem (by have := HN.out; omega)⟩
      obtain ⟨xa, xc, hc0, hIA⟩ := hcs j L hLj
      have HC := (show Hid (w.cell? ⟨b, off + j, none⟩ = some (.slice xa L.length xc)) from hc0)
      have HLJ := (show Hid (LL[j]? = some L) from hLj)
      have HIA := (show Hid (IntsAt w xa L) from hIA)
      have HFL := (show Hid ((LL.take j).flatten.length + L.length ≤ 100000) from Nat.le_trans (flat_len LL j L hLj) HF.out)
      have HSUB := (show Hid (∀ k x, x ∈ (LL.take j).flatten ++ L.take k → x ∈ LL.flatten) from by
        intro k x hx
        have h1 : x ∈ (LL.take (j + 1)).flatten := by
          rw [flat_take LL j L hLj]
          rcases List.mem_append.1 hx with h | h
          · exact List.mem_append.2 (.inl h)
          · exact List.mem_append.2 (.inr (List.mem_of_mem_take h))
        obtain ⟨M, hM, hxM⟩ := List.mem_flatten.1 h1
        exact List.mem_flatten.2 ⟨M, List.mem_of_mem_take hM, hxM⟩)
      obtain ⟨m, hm⟩ : ∃ m, L.length = m := ⟨_, rfl⟩
      have HM := (show Hid (L.length = m) from hm)
      have hm5 : m ≤ 100000 := by have h1 := HFL.out; have h2 := HM.out; omega
      have HO1 := (show Hid (w1.ownsRow w.heap.size 3 1 v q (ints (foldW (posL ((LL.take j).flatten ++ L.take 0))))) from by rw [List.take_zero, List.append_nil]; exact HO.out)
      clear hcs hLj hc0 hIA hm HO
      go_wp2_with fail
      go_loopw [3, 5] (fun v i wq => ∃ (k q : Nat) (vv : Value), vv = v ∧ k ≤ m ∧ q ≤ 100000 ∧ i = .int .i64 k ∧ Hid (wq.ownsRow w.heap.size 3 1 v q (ints (foldW (posL ((LL.take j).flatten ++ L.take k))))) ∧ Keep [] w wq) (fun _ i _ => m - (intOf i).toNat)
      case atStart => exact ⟨0, q, _, rfl, by omega, by omega, rfl, HO1, hK⟩
      case round =>
        obtain ⟨k, q, v, hvv, hk, hq, rfl, HO, hK2⟩ := hrel
        obtain ⟨w2, rfl⟩ : ∃ w2, w2 = wr := ⟨_, rfl⟩
        subst hvv
        have hc := (hK2.cell hb (by simp) (off + j)).trans HC.out
        rw [HM.out] at hc
        by_cases hlt2 : k < m
        · obtain ⟨xb, xo, rfl, hxb, hcell⟩ := HIA.out.cells (by have := HM.out; omega)
          have hkL : k < L.length := by have := HM.out; omega
          have hcx := (hK2.cell hxb (by simp) (xo + k)).trans (hcell k hkL)
          have hlo := HIA.out.low k
          have hhi := HIA.out.high k
          have HPY := (show Hid (0 < L[k]?.getD 0 → posL ((LL.take j).flatten ++ L.take (k + 1)) = posL ((LL.take j).flatten ++ L.take k) ++ [L[k]?.getD 0]) from pos_snoc _ _ k hkL)
          have HPN := (show Hid (¬ 0 < L[k]?.getD 0 → posL ((LL.take j).flatten ++ L.take (k + 1)) = posL ((LL.take j).flatten ++ L.take k)) from pos_skip _ _ k hkL)
          have HPB := (show Hid ((foldW (posL ((LL.take j).flatten ++ L.take (k + 1)))).length ≤ 100000) from Nat.le_trans (foldW_le _) (posL_bound _ _ _ _ HFL.out))
          have HFB := (show Hid (∀ i : Nat, -9223372036854775808 ≤ (foldW (posL ((LL.take j).flatten ++ L.take k)))[i]?.getD 0 ∧ (foldW (posL ((LL.take j).flatten ++ L.take k)))[i]?.getD 0 ≤ 9223372036854775807) from foldW_bd (pos_bd HB.out (HSUB.out k)))
          clear hcell hkL
          generalize L[k]?.getD 0 = x at *
          by_cases hx : 0 < x
          · have hd : decide (0 < x) = true := by rw [decide_eq_true_iff]; exact hx
            have HP := (show Hid (withL (foldW (posL ((LL.take j).flatten ++ L.take k))) x = foldW (posL ((LL.take j).flatten ++ L.take (k + 1)))) from by
              show _ = _
              rw [HPY.out hx, foldW_snoc])
            have hsz := hK2.size
            obtain ⟨la, lq, lc, rfl, hlq, _⟩ : ∃ la lq lc, v = .slice la lq lc ∧ lq = q ∧ True := by
              rcases HO.out.2 with ⟨h1, h2⟩ | ⟨g, cap, _, h1, _⟩
              · exact ⟨none, 0, 0, h1, h2.symm, trivial⟩
              · exact ⟨_, q, cap, h1, rfl, trivial⟩
            subst hlq
            clear HPY HPN
            go_wp2_with (go_at_call 20; refine (rwith la x _ HO.out HFB.out ⟨hlo, hhi⟩ (by omega) hsz).mono ?_; rw [HP.out]; rintro e w5 ⟨v', q5, rfl, hO5, hK5⟩)
            have HO5 := (show Hid (w5.ownsRow w.heap.size 3 1 v' q5 (ints (foldW (posL ((LL.take j).flatten ++ L.take (k + 1)))))) from hO5)
            have hq5 : q5 ≤ 100000 := by have h1 := HO5.out.1; rw [ints_length, Nat.mul_one] at h1; have h2 := HPB.out; omega
            have hKK := hK2.trans hK5
            clear hO5 hK5 HP HPB HFB hsz
            go_wp2_with fail
            go_roundw
            case rel => exact ⟨k + 1, q5, _, rfl, by omega, hq5, by go_num, HO5, hKK⟩
            case measure => simp [intOf]; omega
          · have hd : decide (0 < x) = false := by rw [decide_eq_false_iff_not]; exact hx
            have HO5 := (show Hid (w2.ownsRow w.heap.size 3 1 v q (ints (foldW (posL ((LL.take j).flatten ++ L.take (k + 1)))))) from by
              show World.ownsRow _ _ _ _ _ _ _
              rw [HPN.out hx]; exact HO.out)
            clear HPY HPN HPB HFB hx
            go_wp2_with fail
            go_roundw
            case rel => exact ⟨k + 1, q, _, rfl, by omega, by omega, by go_num, HO5, hK2⟩
            case measure => simp [intOf]; omega
        · obtain rfl : k = m := by omega
          have HO5 := (show Hid (w2.ownsRow w.heap.size 3 1 v q (ints (foldW (posL (LL.take (j + 1)).flatten)))) from by
            show World.ownsRow _ _ _ _ _ _ _
            rw [flat_take LL j L HLJ.out]
            have h1 := HO.out
            rw [List.take_of_length_le (l := L) (by have := HM.out; omega)] at h1
            exact h1)
          clear HO HO1
          go_wp2_with fail
          go_roundw
          case rel => exact ⟨j + 1, q, _, rfl, by omega, by omega, by go_num, HO5, hK2⟩
          case measure => simp [intOf]; omega
    · obtain rfl : j = n := by omega
      have HO1 := (show Hid (w1.ownsRow w.heap.size 3 1 v q (ints (mergeL LL.flatten))) from by
        have h1 := HO.out
        rw [List.take_of_length_le (l := LL) (by have := HN.out; omega), foldW_merge] at h1
        exact h1)
      clear HO
      go_wp2_with fail
      go_ret
      first | exact ⟨_, q, rfl, HO1.out, hK⟩ | exact ⟨_, rfl, ⟨q, HO1.out⟩, hK⟩

end Go.Proofs.Ytiknghbfigophaa
