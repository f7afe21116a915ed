/-
  Graph of gloaminglaw17: the program's heap of a graph by numbers.
-/
import Derived.Test.YtgpidokklhjfdaaGreatWords17
import Derived.Test.YtgpidokklhjfdaaGreatPart7
import Derived.Test.YtgpidokklhjfdaaGreatAwake9
import Derived.Deep.RegionHeld3
namespace Go.Proofs.YtgpidokklhjfdaaGreat
open Go.RowKit

/-- A row of values of several cells each, of one's own, that nothing turns. -/
def wideA (t : TypeId) (m : Nat) (va : Option Addr) (n vc : Nat) (xs : List Value) : Asn where
  at' w F := F = va.toList.map (·.block) ∧ w.ownsRow 0 t m (.slice va n vc) n xs ∧ ∀ a, va = some a → a.block < w.heap.size
  keep := fun h K hS => ⟨h.1, own_keepS h.2.1 K (fun y e => hS _ (by rw [h.1, e]; simp)), fun a e => Nat.lt_of_lt_of_le (h.2.2 a e) K.size⟩
  lt := fun h k hk => by
    rw [h.1] at hk
    simp at hk
    obtain ⟨a, e, rfl⟩ := hk
    exact h.2.2 a e
theorem Has.wideNew {w0 w w1 : World} {F0 : List Nat} {A : Asn} {t : TypeId} {m n vc : Nat} {va : Option Addr} {xs : List Value} (h : Has w0 F0 A w) (K : Keep [] w w1) (ho : w1.ownsRow w.heap.size t m (.slice va n vc) n xs) : Has w0 F0 (A.star (wideA t m va n vc xs)) w1 := by
  have hf := own_far ho
  refine h.more K (G := va.toList.map (·.block)) ⟨rfl, own_base ho (Nat.zero_le _), fun a e => (hf a e).2⟩ (fun k hk => ?_)
  simp at hk
  obtain ⟨a, e, rfl⟩ := hk
  exact (hf a e).1
theorem addR_G : addR [] 3 [0, 2] = dsG := by decide
theorem in02 : inR [0, 2] := by
  intro i
  rcases i with _ | _ | i <;> simp
theorem ints_blkG {w : World} {b : Nat} {t : TypeId} {L : List Int} (h : w.heap[b]? = some (.cells (ints L).toArray t (0, 0))) (hL : inR L) : IntsAt w (some ⟨b, 0, none⟩) L := by
  refine ⟨fun _ => ⟨b, 0, rfl, lt_of_block h, fun i hi => ?_⟩, fun i => (hL i).1, fun i => (hL i).2⟩
  have h' : Row w t b L := h
  rw [Nat.zero_add]
  exact h'.cell hi
/-- A head of the list. -/
theorem heads_at {w0 w : World} {F0 : List Nat} {n vc j : Nat} {va : Option Addr} {B : Nat → Nat} (h : Has w0 F0 (wideA 68 4 va n vc (hsG B n).flatten) w) (hj : j < n) :
    ∃ b, va = some ⟨b, 0, none⟩ ∧ w.cell? ⟨b, j * 4, none⟩ = some (.int .i64 (kG B j)) ∧ w.cell? ⟨b, j * 4 + 1, none⟩ = some (.int .i64 (cG B j)) ∧ w.cell? ⟨b, j * 4 + 2, none⟩ = some (.int .i64 (lG B j)) ∧ w.cell? ⟨b, j * 4 + 3, none⟩ = some (.bool false) := by
  have ho := h.fact (fun _ h => h.2.1)
  obtain ⟨b, h1, _, _, h4⟩ := wide_cells ho (hsG_each B n) (hsG_length B n) (by omega)
  refine ⟨b, h1, ?_, ?_, ?_, ?_⟩
  · have := h4 j _ 0 (hsG_get B n j hj) (by omega); simpa [hG] using this
  · have := h4 j _ 1 (hsG_get B n j hj) (by omega); simpa [hG] using this
  · have := h4 j _ 2 (hsG_get B n j hj) (by omega); simpa [hG] using this
  · have := h4 j _ 3 (hsG_get B n j hj) (by omega); simpa [hG] using this

set_option maxRecDepth 100000 in
set_option maxHeartbeats 12800000 in
theorem graph_any (no : Option Addr) (m nc n : Nat) (B : Nat → Nat) (W : Nat → List Int) (K : Nat → List PK) (A : Nat → Nat) (w : World) (hn : min m 24 = n) (hG : GraphT B m n W K A) (hU : U8At w no m B) (hm63 : m ≤ 9223372036854775807) :
    Calls Tryz.prog 4 #[.slice no m nc] w fun e w' => ∃ (hb : Nat) (la : Option Addr) (lc : Nat), e = .returned (.tuple #[.pointer (some ⟨hb, 0, none⟩), .slice la n lc]) ∧ Has w [] ((heapA hb (gW B m n W A n) (K n) dsG).star (midA 3 (.slice la n lc) (aL A n))) w' := by
  obtain ⟨i0, hi, hz0, hz1, hz2⟩ := info_parts Tryz.infoIntC
  have hI : Hid (Tryz.prog.info? 3 = some i0 ∧ i0.zero = some (.int .i64 0) ∧ i0.size = 1 ∧ i0.bytes = 8) := ⟨hi, hz0, hz1, hz2⟩
  have HG := hid hG
  have HU := hid hU
  have HN := hid hn
  have hn24 := hG.few
  clear hG hU hi hz0 hz1 hz2 hn
  go_enter Tryz.func4, Tryz.ntmps4
  go_wp2_with fail
  refine (onew_has 60 _ (by omega) (by omega)).mono ?_
  rintro e w1 ⟨hb, rfl, hH⟩
  have HH := hid hH
  obtain ⟨sb, tb, _, ct⟩ := hH.ptrs
  have hbl : hb < w1.heap.size := lt_of_cell2' ct
  have HX1 := hid (hH.newB (.cells (ints [0, 2]).toArray 3 (0, 0)))
  clear hH
  go_wp2_with (first | (go_at_call 22; refine (owhole _ HH.out).mono ?_; rintro e w' ⟨rfl, rfl⟩) | (go_at_call 7; refine (err_any _ _).mono ?_; rintro e w' ⟨rfl, rfl⟩))
  refine (has_left HX1.out (fun F hF => oof tb 3 (some ⟨w1.heap.size, 0, none⟩) 2 2 [0, 2] _ hF ((Keep.alloc [] w1 _ |>.cell hbl (by simp) 1).trans ct) (ints_blkG (HX1.out.snd.fact (fun _ h => h.2)) in02) (by simp) rfl (by omega))).mono ?_
  rintro e w2 ⟨rfl, hX2⟩
  have HX2 := (show Hid (Has w [] (heapA hb (W 0) (K 0) dsG) w2) from by
    have h := hX2.fst
    rw [addR_G] at h
    rw [HG.out.ch.w0, HG.out.ch.k0]
    exact h)
  clear hX2 HX1 HH ct hbl
  go_wp2_with fail
  refine (heads17 no m nc B w2 (HU.out.keep HX2.out.K (by simp)) hm63).mono ?_
  rw [HN.out]
  rintro e w3 ⟨ha, hc, rfl, hown3, hK3⟩
  have HX3 := (show Hid (Has w [] (((heapA hb (W 0) (K 0) dsG).star (wideA 68 4 ha n hc (hsG B n).flatten)).star (midA 3 (.slice none 0 0) (aL A 0))) w3) from (HX2.out.wideNew hK3 hown3).more (Keep.refl [] _) (G := []) ⟨rfl, IsMid.nil _ _⟩ (fun k hk => by cases hk))
  clear hown3 hK3 HX2
  go_wp2_with fail
  go_loopw [7, 8] (fun v7 v8 wr => ∃ (j lc : Nat) (la : Option Addr), v7 = .slice la j lc ∧ v8 = .int .i64 j ∧ j ≤ n ∧ Hid (Has w [] (((heapA hb (W j) (K j) dsG).star (wideA 68 4 ha n hc (hsG B n).flatten)).star (midA 3 (.slice la j lc) (aL A j))) wr)) (fun _ v8 _ => n - (intOf v8).toNat)
  case atStart => exact ⟨0, 0, none, rfl, rfl, by omega, HX3.out⟩
  case round =>
    obtain ⟨j, lc, la, rfl, rfl, hj, HX⟩ := hrel
    clear HX3
    by_cases hlt : j < n
    · have hd : decide ((j : Int) < (n : Int)) = true := decide_eq_true (by omega)
      obtain ⟨hbk, rfl, c0, c1, c2, c3⟩ := heads_at HX.out.fst.snd hlt
      have HT := hid (HG.out.ch.step j hlt)
      have hab := (HG.out.ch.ot (j + 1) (by omega)).bd j (by omega)
      have HL := (show Hid (aL A (j + 1) = aL A j ++ [(A j : Int)]) from aL_snoc A j)
      generalize A j = a at *
      go_wp2_with fail
      refine (has_left HX.out (fun F hF => has_left hF (fun F hF => omake (kG B j) (cG B j) (lG B j) a 0 false _ _ _ hF HT.out))).mono ?_
      rintro e w4 ⟨rfl, hX4⟩
      have HX4 := hid hX4
      have HX5 := hid (hX4.keep0 (Keep.alloc [] w4 (.cells #[.int .i64 (a : Int)] 3)))
      clear hX4 HX c0 c1 c2 c3
      go_wp2_with (first
        | (go_at_call 7; refine (err_any _ _).mono ?_; rintro e w' ⟨rfl, rfl⟩)
        | (at_builtin; refine wpList_append_mid _ rfl (.tmp 52) (.tmp 54) 25 rfl 3 i0 Tryz.underlying25 hI.out (.slice la j lc) (aL A j) rfl (HX5.out.snd.fact (fun _ h => h.2)) w4.heap.size a 1 rfl (cell_of_one (heap_alloc_new _ _)) (by rw [aL_length]; omega) ?_; intro v7 w7 hm7 hK7 hg7; have HX7 := hid (HX5.out.midTurn hK7 hm7 hg7); obtain ⟨l7, c7, hv7⟩ := hm7.form; rw [← HL.out] at HX7; rw [← HL.out, aL_length] at hv7; subst hv7; clear hm7 hK7 hg7))
      go_roundw
      case rel => exact ⟨j + 1, c7, l7, rfl, by go_num, by omega, HX7⟩
      case measure => simp [intOf]; omega
    · have hjn : j = n := by omega
      have hd : decide ((j : Int) < (n : Int)) = false := decide_eq_false (by omega)
      have HX4 := (show Hid (Has w [] (((heapA hb (gW B m n W A 0) (K n) dsG).star (wideA 68 4 ha n hc (hsG B n).flatten)).star (midA 3 (.slice la n lc) (aL A n))) wr) from by
        have h := HX.out
        rw [hjn] at h
        exact h)
      rw [hjn]
      clear HX hjn hd hj hlt
      have hd : decide ((n : Int) < (n : Int)) = false := decide_eq_false (by omega)
      go_wp2_with fail
      clear hd
      go_loopw [11] (fun v wq => ∃ i : Nat, v = .int .i64 i ∧ i ≤ n ∧ Hid (Has w [] (((heapA hb (gW B m n W A i) (K n) dsG).star (wideA 68 4 ha n hc (hsG B n).flatten)).star (midA 3 (.slice la n lc) (aL A n))) wq)) (fun v _ => n - (intOf v).toNat)
      case atStart => exact ⟨0, rfl, by omega, HX4.out⟩
      case round =>
        obtain ⟨i, rfl, hi, HX⟩ := hrel
        clear HX4
        by_cases hlt : i < n
        · have hd : decide ((i : Int) < (n : Int)) = true := decide_eq_true (by omega)
          obtain ⟨hbk, rfl, c0, c1, c2, c3⟩ := heads_at HX.out.fst.snd hlt
          obtain ⟨q, hq⟩ : ∃ q : Nat, lG B i = q := ⟨(lG B i).toNat, by have := lG_bd B i; omega⟩
          have hq5 : 1 ≤ q ∧ q ≤ 5 := by have := lG_bd B i; omega
          have hk4 : 1 ≤ kG B i ∧ kG B i ≤ 4 := by unfold kG; omega
          have h4 : kG B i = 4 → q = 5 := fun e => by
            have e3 : B i % 4 = 3 := by unfold kG at e; omega
            have : lG B i = 5 := by unfold lG; rw [e3]; rfl
            omega
          have HZ := (show Hid (wordsG B m (aL A n) (kG B i) q i = gZ B m n A i ∧ (gZ B m n A i).length = q) from ⟨by unfold gZ; rw [hq], by unfold gZ; rw [wordsG_length, hq]; simp⟩)
          have hm1 : 1 ≤ m := by have := HN.out; omega
          have hWD := words17 (kG B i) (cG B i) q la n lc (aL A n) no m nc i B wr hk4 hq5 h4 ((HX.out.snd.fact (fun _ h => h.2) : IsMid wr 3 (.slice la n lc) (aL A n)).ints (fun t => HG.out.bd t)).1 (aL_length A n) (by omega) (by omega) (HU.out.keep HX.out.K (by simp)) hm1 (by omega) hm63
          rw [HZ.out.1] at hWD
          have HWD := hid hWD
          rw [hq] at c2
          clear hWD hk4 h4 hm1
          generalize kG B i = kk at c0 HWD
          generalize cG B i = cc at c1 HWD
          go_wp2_with fail
          refine HWD.out.mono ?_
          rintro e w5 ⟨z, rfl, hz, hR, hK5⟩
          obtain ⟨Z, hZe⟩ : ∃ Z, gZ B m n A i = Z := ⟨_, rfl⟩
          have HZl := (show Hid (Z.length = q) from by show _ = _; rw [← hZe]; exact HZ.out.2)
          have hzs := HG.out.zs i hlt
          rw [hZe] at hzs hR
          have HZI := (show Hid (∀ t : Nat, inI (Z[t]?.getD 0)) from hzs.2)
          have HP := (show Hid (∀ k, k < q → PutT (K n) (putsK (gW B m n W A i) (A i + 1) Z k) (A i) k (Z[k]?.getD 0) 0 (putsK (gW B m n W A i) (A i + 1) Z (k + 1))) from fun k hk => (HG.out.ot i (by omega)).putsT i hlt Z hzs.2 k (by omega))
          have HGN := (show Hid (gW B m n W A (i + 1) = putsK (gW B m n W A i) (A i + 1) Z q) from by
            show putsK (gW B m n W A i) (A i + 1) (gZ B m n A i) (gZ B m n A i).length = _
            rw [hZe, HZl.out])
          have HX5 := (show Hid (Has w [] ((((heapA hb (putsK (gW B m n W A i) (A i + 1) Z 0) (K n) dsG).star (wideA 68 4 (some ⟨hbk, 0, none⟩) n hc (hsG B n).flatten)).star (midA 3 (.slice la n lc) (aL A n))).star (blockA z (.cells (ints Z).toArray 3 (0, 0)))) w5) from HX.out.more hK5 (B := blockA z (.cells (ints Z).toArray 3 (0, 0))) (G := [z]) ⟨rfl, hR⟩ (fun k hk => by simp at hk; omega))
          have hbd := (HG.out.ot i (by omega)).bd i hlt
          have HAI := (show Hid ((aL A n)[i]?.getD 0 = (A i : Int)) from aL_get A n i hlt)
          generalize gW B m n W A i = X0 at *
          clear hR hz hK5 HX hzs hZe HZ HWD c0 c1 c2 c3 hq
          go_wp2_with fail
          go_loopw [13] (fun v wq => ∃ k : Nat, v = .int .i64 k ∧ k ≤ q ∧ Hid (Has w [] ((((heapA hb (putsK X0 (A i + 1) Z k) (K n) dsG).star (wideA 68 4 (some ⟨hbk, 0, none⟩) n hc (hsG B n).flatten)).star (midA 3 (.slice la n lc) (aL A n))).star (blockA z (.cells (ints Z).toArray 3 (0, 0)))) wq)) (fun v _ => q - (intOf v).toNat)
          case atStart => exact ⟨0, rfl, by omega, HX5.out⟩
          case round =>
            obtain ⟨k, rfl, hk, HX6⟩ := hrel
            clear HX5
            by_cases hkl : k < q
            · have hd2 : decide ((k : Int) < (q : Int)) = true := decide_eq_true (by omega)
              have hm6 : IsMid _ 3 (.slice la n lc) (aL A n) := HX6.out.fst.snd.fact (fun _ h => h.2)
              obtain ⟨g, o, rfl⟩ := hm6.some (by omega)
              have y1 := (mid_cells hm6 hlt).1
              rw [HAI.out] at y1
              have hrow : Row _ 3 z Z := HX6.out.snd.fact (fun _ h => h.2)
              have y2 := hrow.cell (i := k) (by rw [HZl.out]; exact hkl)
              have HPk := hid (HP.out k hkl)
              have HIk := hid (HZI.out k)
              generalize Z[k]?.getD 0 = y at *
              clear hm6 hrow
              go_upto_region 21 with fail
              go_region_law (first | (go_simp; refine (has_left (HX6.out.keep0 (Keep.drew [] _)) (fun F hF => has_left hF (fun F hF => has_left hF (fun F hF => oput (A i) k y 0 _ _ hF HPk.out HIk.out)))).mono ?_; rintro e w7 ⟨rfl, hX7⟩; have HX7 := hid hX7; clear hX7) | (go_simp; refine (err_any _ _).mono ?_; rintro e w' ⟨rfl, rfl⟩))
              all_goals go_wp2_with fail
              all_goals
                go_roundw
                case rel => exact ⟨k + 1, by go_num, by omega, HX7⟩
                case measure => simp [intOf]; omega
            · obtain rfl : k = q := by omega
              have hd2 : decide ((k : Int) < (k : Int)) = false := decide_eq_false (by omega)
              have HX7 := (show Hid (Has w [] (((heapA hb (gW B m n W A (i + 1)) (K n) dsG).star (wideA 68 4 (some ⟨hbk, 0, none⟩) n hc (hsG B n).flatten)).star (midA 3 (.slice la n lc) (aL A n))) _) from by
                have h := HX6.out.fst
                rw [← HGN.out] at h
                exact h)
              clear HX6
              go_wp2_with fail
              go_roundw
              case rel => exact ⟨i + 1, by go_num, by omega, HX7⟩
              case measure => simp [intOf]; omega
        · obtain rfl : i = n := by omega
          have hd : decide ((i : Int) < (i : Int)) = false := decide_eq_false (by omega)
          go_wp2_with fail
          go_ret2
          exact ⟨hb, la, lc, rfl, HX.out.swap.fst⟩

end Go.Proofs.YtgpidokklhjfdaaGreat
