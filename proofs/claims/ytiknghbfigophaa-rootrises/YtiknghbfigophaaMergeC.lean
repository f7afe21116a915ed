/-
  Package root: what Merge answers, over a list of lists of integers in memory.
-/
import Derived.Test.YtiknghbfigophaaSorts
import Derived.Test.YtiknghbfigophaaSep
import Derived.Test.YtiknghbfigophaaLists
namespace Go.Proofs.Ytiknghbfigophaa
open Go.RowKit

theorem Try.infoIntM : (Try.prog.info? 3).map (fun i => (i.zero, i.size, i.bytes)) = some (some (.int .i64 0), 1, 8) := by kernel_rfl

/-- A list of lists of integers in memory: a row of slices. -/
structure ListsAt (w : World) (ao : Option Addr) (LL : List (List Int)) : Prop where
  cells : 0 < LL.length → ∃ b off, ao = some ⟨b, off, none⟩ ∧ b < w.heap.size ∧ ∀ (i : Nat) (L : List Int), LL[i]? = some L → ∃ xa c, w.cell? ⟨b, off + i, none⟩ = some (.slice xa L.length c) ∧ IntsAt w xa L
theorem ListsAt.keep {w w' : World} {ao : Option Addr} {LL : List (List Int)} (h : ListsAt w ao LL) (K : Keep [] w w') : ListsAt w' ao LL := by
  refine ⟨fun h0 => ?_⟩
  obtain ⟨b, off, e, hb, hc⟩ := h.cells h0
  refine ⟨b, off, e, Nat.lt_of_lt_of_le hb K.size, fun i L hi => ?_⟩
  obtain ⟨xa, c, h1, h2⟩ := hc i L hi
  exact ⟨xa, c, (K.cell hb (by simp) _).trans h1, h2.keep K (fun _ a _ => by simp)⟩
theorem ListsAt.nil (w : World) (ao : Option Addr) : ListsAt w ao [] := ⟨fun h => by simp at h⟩

theorem flat_take (LL : List (List Int)) (j : Nat) (L : List Int) (h : LL[j]? = some L) : (LL.take (j + 1)).flatten = (LL.take j).flatten ++ L := by
  rw [List.take_add_one, h]; simp
theorem flat_len (LL : List (List Int)) (j : Nat) (L : List Int) (h : LL[j]? = some L) : (LL.take j).flatten.length + L.length ≤ LL.flatten.length := by
  have h1 := flat_take LL j L h
  have h2 : (LL.take (j + 1)).flatten.length ≤ LL.flatten.length := by
    have : LL.flatten = (LL.take (j + 1)).flatten ++ (LL.drop (j + 1)).flatten := by rw [← List.flatten_append, List.take_append_drop]
    rw [this]; simp
  rw [h1, List.length_append] at h2
  exact h2
theorem takeM (L : List Int) (j : Nat) (h : j < L.length) : L.take (j + 1) = L.take j ++ [L[j]?.getD 0] := by
  rw [List.take_add_one, List.getElem?_eq_getElem h]; simp
theorem pos_snoc (P L : List Int) (k : Nat) (hk : k < L.length) (h : 0 < L[k]?.getD 0) : posL (P ++ L.take (k + 1)) = posL (P ++ L.take k) ++ [L[k]?.getD 0] := by
  rw [takeM L k hk, ← List.append_assoc, posL_yes _ _ h]
theorem pos_skip (P L : List Int) (k : Nat) (hk : k < L.length) (h : ¬ 0 < L[k]?.getD 0) : posL (P ++ L.take (k + 1)) = posL (P ++ L.take k) := by
  rw [takeM L k hk, ← List.append_assoc, posL_no _ _ h]
theorem posL_bound (P L : List Int) (k : Nat) (M : Nat) (h : P.length + L.length ≤ M) : (posL (P ++ L.take k)).length ≤ M := by
  have := posL_le (P ++ L.take k)
  simp at this
  omega

set_option maxRecDepth 100000 in
set_option maxHeartbeats 8000000 in
theorem merge_any (ao : Option Addr) (n c : Nat) (LL : List (List Int)) (w : World) (h : ListsAt w ao LL) (hn : LL.length = n) (hf : LL.flatten.length ≤ 100000) (hn2 : n ≤ 100000) :
    Calls Try.prog 14 #[.slice ao n c] w fun e w' => ∃ v q, e = .returned v ∧ w'.ownsRow w.heap.size 3 1 v q (ints (mergeL LL.flatten)) ∧ Keep [] w w' := by
  obtain ⟨i0, hi, hz0, hz1, hz2⟩ := info_parts Try.infoIntM
  have hI : Hid (Try.prog.info? 3 = some i0 ∧ i0.zero = some (.int .i64 0) ∧ i0.size = 1 ∧ i0.bytes = 8) := ⟨hi, hz0, hz1, hz2⟩
  clear hi hz0 hz1 hz2
  have HL := (show Hid (ListsAt w ao LL) from h)
  have HN := (show Hid (LL.length = n) from hn)
  have HF := (show Hid (LL.flatten.length ≤ 100000) from hf)
  clear h hn hf
  go_enter Try.func14, Try.ntmps14
  go_wp2_with fail
  go_loopw [3, 10] (fun v i wr => ∃ (j q : Nat) (vv : Value), vv = v ∧ j ≤ n ∧ q ≤ 100000 ∧ i = .int .i64 j ∧ Hid (wr.ownsRow w.heap.size 3 1 v q (ints (posL (LL.take j).flatten))) ∧ Keep [] w wr) (fun _ i _ => n - (intOf i).toNat)
  case atStart => exact ⟨0, 0, _, rfl, by omega, by omega, rfl, World.ownsRow_nil _ _ _ _, Keep.refl _ _⟩
  case round =>
    obtain ⟨j, q, v, hvv, hj, hq, rfl, HO, hK⟩ := hrel
    obtain ⟨w1, rfl⟩ : ∃ w1, w1 = wr := ⟨_, rfl⟩
    subst hvv
    by_cases hlt : j < n
    · obtain ⟨b, off, rfl, hb, hcs⟩ := HL.out.cells (by have := HN.out; omega)
      obtain ⟨L, hLj⟩ : ∃ L, LL[j]? = some L := ⟨_, List.getElem?_eq_getElem (by have := HN.out; omega)⟩
      obtain ⟨xa, xc, hc0, hIA⟩ := hcs j L hLj
      have hc := (hK.cell hb (by simp) (off + j)).trans hc0
      have HLJ := (show Hid (LL[j]? = some L) from hLj)
      have HIA := (show Hid (IntsAt w xa L) from hIA)
      have HFL := (show Hid ((LL.take j).flatten.length + L.length ≤ 100000) from Nat.le_trans (flat_len LL j L hLj) HF.out)
      obtain ⟨m, hm⟩ : ∃ m, L.length = m := ⟨_, rfl⟩
      rw [hm] at hc
      have HM := (show Hid (L.length = m) from hm)
      have hm5 : m ≤ 100000 := by have h1 := HFL.out; have h2 := HM.out; omega
      have HO1 := (show Hid (w1.ownsRow w.heap.size 3 1 v q (ints (posL ((LL.take j).flatten ++ L.take 0)))) from by rw [List.take_zero, List.append_nil]; exact HO.out)
      clear hcs hLj hc0 hIA hm HO
      go_wp2_with fail
      go_loopw [3, 16] (fun v i wq => ∃ (k q : Nat) (vv : Value), vv = v ∧ k ≤ m ∧ q ≤ 100000 ∧ i = .int .i64 k ∧ Hid (wq.ownsRow w.heap.size 3 1 v q (ints (posL ((LL.take j).flatten ++ L.take k)))) ∧ Keep [] w wq) (fun _ i _ => m - (intOf i).toNat)
      case atStart => exact ⟨0, q, _, rfl, by omega, by omega, rfl, HO1, hK⟩
      case round =>
        obtain ⟨k, q, v, hvv, hk, hq, rfl, HO, hK2⟩ := hrel
        obtain ⟨w2, rfl⟩ : ∃ w2, w2 = wr := ⟨_, rfl⟩
        subst hvv
        by_cases hlt2 : k < m
        · obtain ⟨xb, xo, rfl, hxb, hcell⟩ := HIA.out.cells (by have := HM.out; omega)
          have hkL : k < L.length := by have := HM.out; omega
          have hcx := (hK2.cell hxb (by simp) (xo + k)).trans (hcell k hkL)
          have hlo := HIA.out.low k
          have hhi := HIA.out.high k
          have HPY := (show Hid (0 < L[k]?.getD 0 → posL ((LL.take j).flatten ++ L.take (k + 1)) = posL ((LL.take j).flatten ++ L.take k) ++ [L[k]?.getD 0]) from pos_snoc _ _ k hkL)
          have HPN := (show Hid (¬ 0 < L[k]?.getD 0 → posL ((LL.take j).flatten ++ L.take (k + 1)) = posL ((LL.take j).flatten ++ L.take k)) from pos_skip _ _ k hkL)
          have HPB := (show Hid ((posL ((LL.take j).flatten ++ L.take (k + 1))).length ≤ 100000) from posL_bound _ _ _ _ HFL.out)
          clear hcell hkL
          generalize L[k]?.getD 0 = x at *
          by_cases hx : 0 < x
          · have hd : decide (0 < x) = true := by rw [decide_eq_true_iff]; exact hx
            have HP := (show Hid (posL ((LL.take j).flatten ++ L.take (k + 1)) = posL ((LL.take j).flatten ++ L.take k) ++ [x]) from HPY.out hx)
            clear HPY HPN
            go_wp2_with (at_builtin; go_loud (refine append_ints rfl (.tmp 22) (.tmp 24) 22 rfl w.heap.size 3 i0 Try.underlying22 hI.out _ q (posL ((LL.take j).flatten ++ L.take k)) [x] rfl (HO.out.alloc _) (some ⟨w2.heap.size, 0, none⟩) 1 1 rfl rfl (IntsAt.single w2 3 x (by omega) (by omega)) (fun e => by cases e) (by omega) (by have := hK2.size; simp; omega) ?_; intro v' w5 hown5 hgrow))
            have HO5 := (show Hid (w5.ownsRow w.heap.size 3 1 v' (q + 1) (ints (posL ((LL.take j).flatten ++ L.take (k + 1))))) from by
              show World.ownsRow _ _ _ _ _ _ _
              rw [HP.out]; exact hown5)
            have hK5 : Keep [] w w5 := (hK2.trans (Keep.alloc [] _ _)).grown hgrow (own_block HO.out)
            have hq5 : q + 1 ≤ 100000 := by have h1 := HO5.out.1; rw [ints_length, Nat.mul_one] at h1; have h2 := HPB.out; omega
            clear hown5 hgrow HP HPB
            go_wp2_with fail
            go_roundw
            case rel => exact ⟨k + 1, q + 1, _, rfl, by omega, hq5, by go_num, HO5, hK5⟩
            case measure => simp [intOf]; omega
          · have hd : decide (0 < x) = false := by rw [decide_eq_false_iff_not]; exact hx
            have HO5 := (show Hid (w2.ownsRow w.heap.size 3 1 v q (ints (posL ((LL.take j).flatten ++ L.take (k + 1))))) from by
              show World.ownsRow _ _ _ _ _ _ _
              rw [HPN.out hx]; exact HO.out)
            clear HPY HPN HPB hx
            go_wp2_with fail
            go_roundw
            case rel => exact ⟨k + 1, q, _, rfl, by omega, by omega, by go_num, HO5, hK2⟩
            case measure => simp [intOf]; omega
        · obtain rfl : k = m := by omega
          have HO5 := (show Hid (w2.ownsRow w.heap.size 3 1 v q (ints (posL (LL.take (j + 1)).flatten))) from by
            show World.ownsRow _ _ _ _ _ _ _
            rw [flat_take LL j L HLJ.out]
            have h1 := HO.out
            rw [List.take_of_length_le (l := L) (by have := HM.out; omega)] at h1
            exact h1)
          clear HO HO1
          go_wp2_with fail
          go_roundw
          case rel => exact ⟨j + 1, q, _, rfl, by omega, by omega, by go_num, HO5, hK2⟩
          case measure => simp [intOf]; omega
    · obtain rfl : j = n := by omega
      have HO1 := (show Hid (w1.ownsRow w.heap.size 3 1 v q (ints (posL LL.flatten))) from by
        have h1 := HO.out
        rw [List.take_of_length_le (l := LL) (by have := HN.out; omega)] at h1
        exact h1)
      clear HO
      go_wp2_with (first
        | (go_at_call 18; refine (ssort v _ HO1.out (by omega)).mono ?_; rintro e w2 ⟨rfl, hO2, hK2⟩)
        | (go_at_call 19; refine (scompact v _ hO2 (by omega)).mono ?_; rintro e w3 ⟨v3, q3, rfl, hO3, hB3, hK3⟩))
      go_ret
      have hob : ∀ k, k ∈ v.ownBlock.toList → w.heap.size ≤ k := fun k hk => own_block HO1.out k (by simpa using hk)
      refine ⟨v3, q3, rfl, ?_, ?_⟩
      · exact hO3
      · exact ((hK.mono (by simp)).trans (hK2.trans hK3)).drop (fun k hk hlt => by have := hob k hk; omega)

end Go.Proofs.Ytiknghbfigophaa
