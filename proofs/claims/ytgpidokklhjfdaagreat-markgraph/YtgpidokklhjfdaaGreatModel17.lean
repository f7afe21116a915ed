/-
  Model of gloaminglaw17: the document's heap of a graph by numbers.
-/
import Derived.Test.YtgpidokklhjfdaaGreatPart8
import Derived.Test.YtgpidokklhjfdaaGreatGraph17
import Derived.Test.YtgpidokklhjfdaaGreatRHeapAdd
import Derived.Test.YtgpidokklhjfdaaGreatPart6
namespace Go.Proofs.YtgpidokklhjfdaaGreat
open Go.RowKit

/-- Nothing. -/
def empA : Asn where
  at' _ F := F = []
  keep := fun h _ _ => h
  lt := fun h k hk => by rw [h] at hk; cases hk
theorem empA_has (w : World) : Has w [] empA w := ⟨[], rfl, Upd.refl (Keep.refl _ _)⟩
set_option maxRecDepth 100000 in
set_option maxHeartbeats 12800000 in
theorem model_any (no : Option Addr) (m nc n : Nat) (B : Nat → Nat) (W : Nat → List Int) (K : Nat → List PK) (A : Nat → Nat) (w : World) (hn : min m 24 = n) (hG : GraphT B m n W K A) (hU : U8At w no m B) (hm63 : m ≤ 9223372036854775807) :
    Calls Tryz.prog 5 #[.slice no m nc] w fun e w' => ∃ (hb : Nat) (la : Option Addr) (lc : Nat), e = .returned (.tuple #[.pointer (some ⟨hb, 0, none⟩), .slice la n lc]) ∧ Has w [] ((rheapA hb (gW B m n W A n) (K n) dsG).star (midA 3 (.slice la n lc) (aL A n))) w' := by
  obtain ⟨i0, hi, hz0, hz1, hz2⟩ := info_parts Tryz.infoIntC
  have hI : Hid (Tryz.prog.info? 3 = some i0 ∧ i0.zero = some (.int .i64 0) ∧ i0.size = 1 ∧ i0.bytes = 8) := ⟨hi, hz0, hz1, hz2⟩
  have HG := hid hG
  have HU := hid hU
  have HN := hid hn
  have hn24 := hG.few
  clear hG hU hi hz0 hz1 hz2 hn
  go_enter Tryz.func5, Tryz.ntmps5
  go_wp2_with fail
  refine (rnewheap 60 (empA_has w) (by omega) (by omega)).mono ?_
  rintro e w1 ⟨hb, rfl, hH⟩
  have HX1 := hid (hH.snd.newB (.cells (ints [0, 2]).toArray 3 (0, 0)))
  clear hH
  go_wp2_with fail
  refine (has_left HX1.out (fun F hF => radd 3 (some ⟨w1.heap.size, 0, none⟩) 2 2 [0, 2] _ hF (ints_blkG (HX1.out.snd.fact (fun _ h => h.2)) in02) (by simp) rfl (by omega))).mono ?_
  rintro e w2 ⟨rfl, hX2⟩
  have HX2 := (show Hid (Has w [] (rheapA hb (W 0) (K 0) dsG) w2) from by
    have h := hX2.fst
    rw [addR_G] at h
    rw [HG.out.ch.w0, HG.out.ch.k0]
    exact h)
  clear hX2 HX1
  go_wp2_with fail
  refine (heads17 no m nc B w2 (HU.out.keep HX2.out.K (by simp)) hm63).mono ?_
  rw [HN.out]
  rintro e w3 ⟨ha, hc, rfl, hown3, hK3⟩
  have HX3 := (show Hid (Has w [] (((rheapA hb (W 0) (K 0) dsG).star (wideA 68 4 ha n hc (hsG B n).flatten)).star (midA 3 (.slice none 0 0) (aL A 0))) w3) from (HX2.out.wideNew hK3 hown3).more (Keep.refl [] _) (G := []) ⟨rfl, IsMid.nil _ _⟩ (fun k hk => by cases hk))
  clear hown3 hK3 HX2
  go_wp2_with fail
  go_loopw [6, 7] (fun v7 v8 wr => ∃ (j lc : Nat) (la : Option Addr), v7 = .slice la j lc ∧ v8 = .int .i64 j ∧ j ≤ n ∧ Hid (Has w [] (((rheapA hb (W j) (K j) dsG).star (wideA 68 4 ha n hc (hsG B n).flatten)).star (midA 3 (.slice la j lc) (aL A j))) wr)) (fun _ v8 _ => n - (intOf v8).toNat)
  case atStart => exact ⟨0, 0, none, rfl, rfl, by omega, HX3.out⟩
  case round =>
    obtain ⟨j, lc, la, rfl, rfl, hj, HX⟩ := hrel
    clear HX3
    by_cases hlt : j < n
    · have hd : decide ((j : Int) < (n : Int)) = true := decide_eq_true (by omega)
      obtain ⟨hbk, rfl, c0, c1, c2, c3⟩ := heads_at HX.out.fst.snd hlt
      have HT := hid (HG.out.ch.step j hlt)
      have hab := (HG.out.ch.ot (j + 1) (by omega)).bd j (by omega)
      have HL := (show Hid (aL A (j + 1) = aL A j ++ [(A j : Int)]) from aL_snoc A j)
      generalize A j = a at *
      have hg := fun w => got_numG (a : Int) 0 w
      go_wp2_with fail
      refine (has_left HX.out (fun F hF => has_left hF (fun F hF => rmake (kG B j) (cG B j) (lG B j) a 0 false _ _ _ hF HT.out))).mono ?_
      rintro e w4 ⟨rfl, hX4⟩
      have HX4 := hid hX4
      have HX5 := hid (hX4.keep0 (Keep.alloc [] w4 (.cells #[.int .i64 (a : Int)] 3)))
      clear hX4 HX c0 c1 c2 c3
      go_wp2_with (first
        | (at_builtin; refine wpList_append_mid _ rfl (.tmp 24) (.tmp 32) 25 rfl 3 i0 Tryz.underlying25 hI.out (.slice la j lc) (aL A j) rfl (HX5.out.snd.fact (fun _ h => h.2)) w4.heap.size a 1 rfl (cell_of_one (heap_alloc_new _ _)) (by rw [aL_length]; omega) ?_; intro v7 w7 hm7 hK7 hg7; have HX7 := hid (HX5.out.midTurn hK7 hm7 hg7); obtain ⟨l7, c7, hv7⟩ := hm7.form; rw [← HL.out] at HX7; rw [← HL.out, aL_length] at hv7; subst hv7; clear hm7 hK7 hg7))
      go_roundw
      case rel => exact ⟨j + 1, c7, l7, rfl, by go_num, by omega, HX7⟩
      case measure => simp [intOf]; omega
    · have hjn : j = n := by omega
      have hd : decide ((j : Int) < (n : Int)) = false := decide_eq_false (by omega)
      have HX4 := (show Hid (Has w [] (((rheapA hb (gW B m n W A 0) (K n) dsG).star (wideA 68 4 ha n hc (hsG B n).flatten)).star (midA 3 (.slice la n lc) (aL A n))) wr) from by
        have h := HX.out
        rw [hjn] at h
        exact h)
      rw [hjn]
      clear HX hjn hd hj hlt
      have hd : decide ((n : Int) < (n : Int)) = false := decide_eq_false (by omega)
      go_wp2_with fail
      clear hd
      go_loopw [8] (fun v wq => ∃ i : Nat, v = .int .i64 i ∧ i ≤ n ∧ Hid (Has w [] (((rheapA hb (gW B m n W A i) (K n) dsG).star (wideA 68 4 ha n hc (hsG B n).flatten)).star (midA 3 (.slice la n lc) (aL A n))) wq)) (fun v _ => n - (intOf v).toNat)
      case atStart => exact ⟨0, rfl, by omega, HX4.out⟩
      case round =>
        obtain ⟨i, rfl, hi, HX⟩ := hrel
        clear HX4
        by_cases hlt : i < n
        · have hd : decide ((i : Int) < (n : Int)) = true := decide_eq_true (by omega)
          obtain ⟨hbk, rfl, c0, c1, c2, c3⟩ := heads_at HX.out.fst.snd hlt
          obtain ⟨q, hq⟩ : ∃ q : Nat, lG B i = q := ⟨(lG B i).toNat, by have := lG_bd B i; omega⟩
          have hq5 : 1 ≤ q ∧ q ≤ 5 := by have := lG_bd B i; omega
          have hk4 : 1 ≤ kG B i ∧ kG B i ≤ 4 := by unfold kG; omega
          have h4 : kG B i = 4 → q = 5 := fun e => by
            have e3 : B i % 4 = 3 := by unfold kG at e; omega
            have : lG B i = 5 := by unfold lG; rw [e3]; rfl
            omega
          have HZ := (show Hid (wordsG B m (aL A n) (kG B i) q i = gZ B m n A i ∧ (gZ B m n A i).length = q) from ⟨by unfold gZ; rw [hq], by unfold gZ; rw [wordsG_length, hq]; simp⟩)
          have hm1 : 1 ≤ m := by have := HN.out; omega
          have hWD := words17 (kG B i) (cG B i) q la n lc (aL A n) no m nc i B wr hk4 hq5 h4 ((HX.out.snd.fact (fun _ h => h.2) : IsMid wr 3 (.slice la n lc) (aL A n)).ints (fun t => HG.out.bd t)).1 (aL_length A n) (by omega) (by omega) (HU.out.keep HX.out.K (by simp)) hm1 (by omega) hm63
          rw [HZ.out.1] at hWD
          have HWD := hid hWD
          rw [hq] at c2
          clear hWD hk4 h4 hm1
          generalize kG B i = kk at c0 HWD
          generalize cG B i = cc at c1 HWD
          go_wp2_with fail
          refine HWD.out.mono ?_
          rintro e w5 ⟨z, rfl, hz, hR, hK5⟩
          obtain ⟨Z, hZe⟩ : ∃ Z, gZ B m n A i = Z := ⟨_, rfl⟩
          have HZl := (show Hid (Z.length = q) from by show _ = _; rw [← hZe]; exact HZ.out.2)
          have hzs := HG.out.zs i hlt
          rw [hZe] at hzs hR
          have HZI := (show Hid (∀ t : Nat, inI (Z[t]?.getD 0)) from hzs.2)
          have HP := (show Hid (∀ k, k < q → PutT (K n) (putsK (gW B m n W A i) (A i + 1) Z k) (A i) k (Z[k]?.getD 0) 0 (putsK (gW B m n W A i) (A i + 1) Z (k + 1))) from fun k hk => (HG.out.ot i (by omega)).putsT i hlt Z hzs.2 k (by omega))
          have HGN := (show Hid (gW B m n W A (i + 1) = putsK (gW B m n W A i) (A i + 1) Z q) from by
            show putsK (gW B m n W A i) (A i + 1) (gZ B m n A i) (gZ B m n A i).length = _
            rw [hZe, HZl.out])
          have HX5 := (show Hid (Has w [] ((((rheapA hb (putsK (gW B m n W A i) (A i + 1) Z 0) (K n) dsG).star (wideA 68 4 (some ⟨hbk, 0, none⟩) n hc (hsG B n).flatten)).star (midA 3 (.slice la n lc) (aL A n))).star (blockA z (.cells (ints Z).toArray 3 (0, 0)))) w5) from HX.out.more hK5 (B := blockA z (.cells (ints Z).toArray 3 (0, 0))) (G := [z]) ⟨rfl, hR⟩ (fun k hk => by simp at hk; omega))
          have hbd := (HG.out.ot i (by omega)).bd i hlt
          have HAI := (show Hid ((aL A n)[i]?.getD 0 = (A i : Int)) from aL_get A n i hlt)
          generalize gW B m n W A i = X0 at *
          clear hR hz hK5 HX hzs hZe HZ HWD c0 c1 c2 c3 hq
          go_wp2_with fail
          go_loopw [10] (fun v wq => ∃ k : Nat, v = .int .i64 k ∧ k ≤ q ∧ Hid (Has w [] ((((rheapA hb (putsK X0 (A i + 1) Z k) (K n) dsG).star (wideA 68 4 (some ⟨hbk, 0, none⟩) n hc (hsG B n).flatten)).star (midA 3 (.slice la n lc) (aL A n))).star (blockA z (.cells (ints Z).toArray 3 (0, 0)))) wq)) (fun v _ => q - (intOf v).toNat)
          case atStart => exact ⟨0, rfl, by omega, HX5.out⟩
          case round =>
            obtain ⟨k, rfl, hk, HX6⟩ := hrel
            clear HX5
            by_cases hkl : k < q
            · have hd2 : decide ((k : Int) < (q : Int)) = true := decide_eq_true (by omega)
              have hm6 : IsMid _ 3 (.slice la n lc) (aL A n) := HX6.out.fst.snd.fact (fun _ h => h.2)
              obtain ⟨g, o, rfl⟩ := hm6.some (by omega)
              have y1 := (mid_cells hm6 hlt).1
              rw [HAI.out] at y1
              have hrow : Row _ 3 z Z := HX6.out.snd.fact (fun _ h => h.2)
              have y2 := hrow.cell (i := k) (by rw [HZl.out]; exact hkl)
              have HPk := hid (HP.out k hkl)
              have HIk := hid (HZI.out k)
              generalize Z[k]?.getD 0 = y at *
              clear hm6 hrow
              go_upto_region 16 with fail
              go_region_law (first | (go_simp; refine (has_left (HX6.out.keep0 (Keep.drew [] _)) (fun F hF => has_left hF (fun F hF => has_left hF (fun F hF => rput (A i) k y 0 _ _ hF HPk.out HIk.out)))).mono ?_; rintro e w7 ⟨rfl, hX7⟩; have HX7 := hid hX7; clear hX7))
              all_goals go_wp2_with fail
              all_goals
                go_roundw
                case rel => exact ⟨k + 1, by go_num, by omega, HX7⟩
                case measure => simp [intOf]; omega
            · obtain rfl : k = q := by omega
              have hd2 : decide ((k : Int) < (k : Int)) = false := decide_eq_false (by omega)
              have HX7 := (show Hid (Has w [] (((rheapA hb (gW B m n W A (i + 1)) (K n) dsG).star (wideA 68 4 (some ⟨hbk, 0, none⟩) n hc (hsG B n).flatten)).star (midA 3 (.slice la n lc) (aL A n))) _) from by
                have h := HX6.out.fst
                rw [← HGN.out] at h
                exact h)
              clear HX6
              go_wp2_with fail
              go_roundw
              case rel => exact ⟨i + 1, by go_num, by omega, HX7⟩
              case measure => simp [intOf]; omega
        · obtain rfl : i = n := by omega
          have hd : decide ((i : Int) < (i : Int)) = false := decide_eq_false (by omega)
          go_wp2_with fail
          go_ret2
          exact ⟨hb, la, lc, rfl, HX.out.swap.fst⟩

end Go.Proofs.YtgpidokklhjfdaaGreat
