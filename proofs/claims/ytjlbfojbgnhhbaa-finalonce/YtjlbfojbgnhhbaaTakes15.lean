/-
  FinalTakes answers true, whatever it is given.
-/
import Derived.Test.YtjlbfojbgnhhbaaPart7
import Derived.Test.YtjlbfojbgnhhbaaPart2
import Derived.Test.YtjlbfojbgnhhbaaSame
import Derived.Deep.CutRange
import Derived.Deep.RegionLaw
namespace Go.Proofs.Ytjlbfojbgnhhbaa.finalTakes
open Go.RowKit

/-- All that wait are pended, in their order. -/
theorem pend_all (L : List Int) (h : L.Nodup) : ∀ n, n ≤ L.length → pendL L [] (L.take n) = (L.drop n, L.take n) := by
  intro n
  induction n with
  | zero => intro _; rfl
  | succ n ih =>
    intro hn
    rw [pendL_snoc L [] L n (by omega), ih (by omega)]
    have hx : L[n]?.getD 0 = L[n]'(by omega) := by rw [List.getElem?_eq_getElem (by omega)]; rfl
    have hd : L.drop n = L[n]'(by omega) :: L.drop (n + 1) := List.drop_eq_getElem_cons (by omega)
    have hnd : (L.drop n).Nodup := h.sublist (List.drop_sublist n L)
    rw [hd] at hnd
    have hnot : L[n]'(by omega) ∉ L.drop (n + 1) := (List.nodup_cons.1 hnd).1
    unfold pend1
    rw [hx, if_pos (show inL (L.drop n) _ = true from decide_eq_true (by rw [hd]; exact List.mem_cons_self))]
    refine Prod.ext ?_ ?_
    · show withoutL (L.drop n) _ = _
      rw [hd]
      unfold withoutL
      rw [List.filter_cons_of_neg (by simp)]
      refine List.filter_eq_self.2 (fun y hy => ?_)
      have : y ≠ L[n]'(by omega) := fun e => hnot (e ▸ hy)
      simpa using this
    · show L.take n ++ _ = _
      rw [List.take_add_one, List.getElem?_eq_getElem (by omega)]; rfl
theorem pend_whole {L : List Int} (h : L.Nodup) : pendL L [] L = ([], L) := by
  have e := pend_all L h L.length (Nat.le_refl _)
  rw [List.take_of_length_le (Nat.le_refl _), List.drop_of_length_le (Nat.le_refl _)] at e
  exact e
theorem pend_none (Q M : List Int) : pendL [] Q M = ([], Q) := by
  unfold pendL
  induction M with
  | nil => rfl
  | cons x M ih => rw [List.foldl_cons]; exact ih
theorem aL_nodup {kd : List PK} {ws : List Int} {n : Nat} {A : Nat → Nat} {fl : Nat → Bool} (h : OS kd ws n A fl) (q : Nat) (hq : q ≤ n + 1) : (aL A q).Nodup := by
  unfold List.Nodup aL
  rw [List.pairwise_map]
  refine List.Pairwise.imp_of_mem (fun {a b} ha hb hne e => ?_) List.nodup_range
  rw [List.mem_range] at ha hb
  exact hne (h.ne a b (by omega) (by omega) (by omega))
/-- The numbers but for one place. -/
def wantL (A : Nat → Nat) (j i : Nat) : List Int := if i ≤ j then aL A i else (aL A i).take j ++ (aL A i).drop (j + 1)
theorem aL_take (A : Nat → Nat) (n i : Nat) (h : i ≤ n) : (aL A n).take i = aL A i := by
  unfold aL
  rw [← List.map_take, List.take_range, Nat.min_eq_left h]
theorem wantL_same (A : Nat → Nat) (j : Nat) : wantL A j (j + 1) = wantL A j j := by
  unfold wantL
  rw [if_neg (by omega), if_pos (Nat.le_refl _), aL_take A _ _ (by omega), List.drop_of_length_le (by rw [aL_length]; exact Nat.le_refl _), List.append_nil]
theorem wantL_more (A : Nat → Nat) (j i : Nat) (h : i ≠ j) : wantL A j (i + 1) = wantL A j i ++ [(A i : Int)] := by
  unfold wantL
  by_cases e : i ≤ j
  · rw [if_pos e, if_pos (by omega), aL_snoc]
  · rw [if_neg e, if_neg (by omega), aL_snoc, List.take_append_of_le_length (by rw [aL_length]; omega), List.drop_append_of_le_length (by rw [aL_length]; omega), List.append_assoc]
theorem wantL_length (A : Nat → Nat) (j i : Nat) : (wantL A j i).length = if i ≤ j then i else i - 1 := by
  unfold wantL
  split
  · exact aL_length A i
  · rw [List.length_append, List.length_take, List.length_drop, aL_length]; omega

set_option maxRecDepth 100000 in
set_option maxHeartbeats 12800000 in
theorem takes_any (n r k m : Nat) (odd : Int) (w : World) (_ : n < 256) (_ : m < 256) (hr : (n : Int) % 8 = r) (hk : 1 + (r : Int) = k) (hk8 : k ≤ 8) (hk1 : 1 ≤ k) (ho : inI odd) :
    Calls Try.prog 4 #[.int .u8 n, .int .u8 m, .int .i64 odd] w fun e w' => e = .returned (.bool true) ∧ Keep [] w w' := by
  obtain ⟨i0, hi, hz0, hz1, hz2⟩ := info_parts Try.infoInt
  have hI : Hid (Try.prog.info? 3 = some i0 ∧ i0.zero = some (.int .i64 0) ∧ i0.size = 1 ∧ i0.bytes = 8) := ⟨hi, hz0, hz1, hz2⟩
  obtain ⟨W, K, A, hC⟩ := gchain_ex (kkF 8) (ccF 8) (llF 8) (headF 8) 9 (by omega)
  have HC := hid hC
  have HND := (show Hid (∀ q, q ≤ 9 → (aL A q).Nodup) from fun q hq => aL_nodup hC.os q hq)
  have HBD := (show Hid (∀ q, q ≤ 8 → 64 ≤ A q ∧ inI (A q : Int)) from fun q hq => by have := hC.os.bd q hq; exact ⟨by omega, by omega, by omega⟩)
  have HS0 := (show Hid (OS (K 9) (W 9) 8 A (fun t => decide (t < 0))) from hC.os)
  have HOI := hid ho
  clear hC hi hz0 hz1 hz2 ho
  go_enter Try.func4, Try.ntmps4
  go_wp2_with fail
  refine (made15 8 HC.out (by omega) _).mono ?_
  rintro e w1 ⟨hb, fb, la, lc, rfl, hlc, hX⟩
  obtain ⟨lb, lo, rfl, _, _⟩ := hX.snd.list.cells (by rw [aL_length]; omega)
  have HX1 := (show Hid (Has w [] ((pfinA fb hb (W 9) (K 9) [] (aL A 0) []).star (listA (some ⟨lb, lo, none⟩) (aL A 9))) w1) from hX)
  clear hX
  go_wp2_with fail
  clear hr hk
  go_loopw [11] (fun i wr => ∃ (j : Nat) (ws : List Int), i = .int .i64 j ∧ j ≤ k ∧ Hid (OS (K 9) ws 8 A (fun t => decide (t < j))) ∧ Hid (Has w [] ((pfinA fb hb ws (K 9) [] (aL A j) []).star (listA (some ⟨lb, lo, none⟩) (aL A 9))) wr)) (fun i _ => k - (intOf i).toNat)
  case atStart => exact ⟨0, W 9, rfl, by omega, HS0, HX1⟩
  case round =>
    obtain ⟨j, ws, rfl, hj, HS, HX⟩ := hrel
    obtain ⟨w2, rfl⟩ : ∃ w2, w2 = wr := ⟨_, rfl⟩
    clear HX1 HS0
    by_cases hlt : j < k
    · have hdk : decide (j < k) = true := decide_eq_true hlt
      obtain ⟨ws', hT, hS'⟩ := HS.out.await j (by omega) (by simp)
      have HT := hid hT
      have HS2 := (show Hid (OS (K 9) ws' 8 A (fun t => decide (t < j + 1))) from by
        have e : (fun t => decide (t < j + 1)) = (fun i => if i = j then true else decide (i < j)) := by
          funext t
          by_cases h1 : t = j
          · simp [h1]
          · simp [h1]; omega
        show OS _ _ _ _ _
        rw [e]; exact hS')
      obtain ⟨_, _, e5, _, hcs⟩ := HX.out.snd.list.cells (by rw [aL_length]; omega)
      cases e5
      have hc := hcs j (by rw [aL_length]; omega)
      rw [aL_get A 9 j (by omega)] at hc
      clear hT hS' hcs
      go_wp2_with fail
      refine (has_left HX.out (fun F hF => pfawait (A j) 0 ws' _ hF HT.out (HBD.out j (by omega)).2 (by rw [aL_length]; omega))).mono ?_
      rw [show awaitL 0 (aL A j) (A j : Int) = aL A (j + 1) by rw [aL_snoc]; rfl]
      rintro e w3 ⟨rfl, hX3⟩
      have HX3 := hid hX3
      clear hX3 HX hc
      go_wp2_with fail
      go_roundw
      case rel => exact ⟨j + 1, ws', by go_num, by omega, HS2, HX3⟩
      case measure => simp [intOf]; omega
    · obtain rfl : j = k := by omega
      have hdk : decide (j < j) = false := decide_eq_false hlt
      clear hlt HS
      have HL := hid HX.out.snd.list
      go_upto_if 45 with (first | (go_at_call 12; refine (rin (some ⟨lb, lo, none⟩) 9 lc (aL A 9) odd _ HL.out (aL_length A 9) (by omega)).mono ?_; rintro e w3 ⟨rfl, rfl⟩; obtain ⟨bq, hbq⟩ : ∃ bq, inL (aL A 9) odd = bq := ⟨_, rfl⟩; rw [hbq]; clear hbq))
      go_cut [2] from 2 to 2 (fun v wz => ∃ y : Int, v = .int .i64 y ∧ Hid (inI y) ∧ wz = w2)
      case first =>
        cases bq
        · go_wp2_with fail
          go_meet
          exact ⟨odd, rfl, HOI, rfl⟩
        · go_wp2_with fail
          go_meet
          exact ⟨0, rfl, inI_0, rfl⟩
      case rest =>
        obtain ⟨y, rfl, HY, rfl⟩ := hcut
        clear HL
        have hjl : j ≤ lc := by omega
        have hjli : (j : Int) ≤ (lc : Int) := by omega
        have hj0 : (0 : Int) ≤ (j : Int) := by omega
        go_wp2_with fail
        refine (pfpend (some ⟨lb, lo, none⟩) j lc (aL A j) _ HX.out (fun w F h => by have e := h.2.1.take j; rw [aL_take A 9 j (by omega)] at e; exact e) (aL_length A j) (by rw [aL_length]; omega) (by simp; omega) (HND.out j (by omega))).mono ?_
        rw [pend_whole (HND.out j (by omega))]
        rintro e w3 ⟨rfl, hX3⟩
        have HX3 := hid hX3
        obtain ⟨_, _, e5, _, hcs⟩ := hX3.snd.list.cells (by rw [aL_length]; omega)
        cases e5
        have hc8 := hcs 8 (by rw [aL_length]; omega)
        rw [aL_get A 9 8 (by omega)] at hc8
        clear hX3 HX hcs
        go_wp2_with fail
        refine (pfpend (some ⟨w3.heap.size, 0, none⟩) 2 2 [y, (A 8 : Int)] _ (HX3.out.newB (twoO y (A 8 : Int))).assoc (ints_block2 HY.out (HBD.out 8 (by omega)).2) rfl (by simp) (by rw [aL_length]; omega) (by simp)).mono ?_
        rw [pend_none]
        rintro e w4 ⟨rfl, hX4⟩
        have HX4 := (show Hid (Has w [] ((pfinA fb hb ws (K 9) [] [] (aL A j)).star (listA (some ⟨lb, lo, none⟩) (aL A 9))) w4) from Has.assoc' hX4 |>.fst)
        clear hX4 HX3 hc8
        have HL4 := hid HX4.out.snd.list
        go_upto_region 13 with fail
        go_cut [70] from 58 to 69 (fun v wz => v = .bool false ∧ Hid (Has w [] ((pfinA fb hb ws (K 9) [] [] (aL A j)).star (listA (some ⟨lb, lo, none⟩) (aL A 9))) wz))
        case first =>
          go_region_law (first
            | (go_simp
               refine (pfpending _ (HX4.out.fst.keep0 (Keep.drew [] _)) (by rw [aL_length]; omega)).mono ?_
               rintro e w5 ⟨v5, m5, rfl, hown5, hK5⟩
               obtain ⟨l5, c5, rfl, _, _, hX5⟩ := (HX4.out.keep0 (Keep.drew [] _)).listed2 hK5 hown5 HX4.out.fst.pfin_in.2
               rw [aL_length]
               have HX5 := hid hX5
               clear hX5 hown5 hK5)
            | (go_simp
               refine (same_eq _ _ j _ _ (aL A j) _ HX5.out.snd.list (by have e := HX5.out.fst.snd.list.take j; rw [aL_take A 9 j (by omega)] at e; exact e) (aL_length A j) (by omega)).mono ?_
               rintro e w6 ⟨rfl, hK6⟩
               have HX6 := hid (HX5.out.keep0 hK6)
               clear hK6)
            | (go_simp
               refine (pffinals _ HX6.out.fst.fst (by simp)).mono ?_
               rintro e w7 ⟨v7, m7, rfl, hown7, hK7⟩
               obtain ⟨l7, c7, rfl, _, _, hX7⟩ := HX6.out.listed2 hK7 hown7 HX6.out.fst.fst.pfin_in.1
               have HX7 := hid hX7
               clear hX7 hown7 hK7))
          all_goals (
            go_wp2_with fail
            go_meet
            exact ⟨rfl, HX7.out.fst.fst⟩)
        case rest =>
          obtain ⟨w8, rfl⟩ : ∃ w8, w8 = wc := ⟨_, rfl⟩
          obtain ⟨rfl, hcut⟩ := hcut
          have HX8 := hid hcut.out
          clear hcut HX4 HL4
          obtain ⟨t, ht, ht2, htj⟩ := tmod_nat m j (by omega)
          have HW := (show Hid (wantL A t j = (aL A j).take t ++ (aL A j).drop (t + 1)) from if_neg (by omega))
          have HWL := (show Hid ((wantL A t j).length = j - 1) from by show _ = _; rw [wantL_length, if_neg (by omega)])
          have HTT := (show Hid (TakeT (aL A j) (t : Int) (A t : Int) 0 (wantL A t j)) from by
            show TakeT _ _ _ _ _
            rw [HW.out, ← aL_get A j t htj]
            exact .yes t rfl (by rw [aL_length]; exact htj))
          have HAT := hid (HBD.out t (by omega)).2
          have hjne : ¬ (j : Int) = 0 := by omega
          go_upto_region 15 with fail
          go_cut [12] from 71 to 74 (fun v wz => v = .int .i64 t ∧ wz = w8)
          case first =>
            go_wp2_with fail
            go_meet
            exact ⟨rfl, rfl⟩
          case rest =>
          obtain ⟨rfl, rfl⟩ := hcut
          clear ht ht2 hjne
          go_wp2_with fail
          refine (has_left HX8.out (fun F hF => pftake t (A t) 0 (wantL A t j) _ hF HTT.out ⟨by omega, by omega⟩ (by rw [aL_length]; omega))).mono ?_
          rintro e w9 ⟨rfl, hX9⟩
          have HX9 := (show Hid (Has w [] (((pfinA fb hb ws (K 9) [] [] (wantL A t j)).star (listA (some ⟨lb, lo, none⟩) (aL A 9))).star (ownA 3 none 0 0 (wantL A t 0))) w9) from hX9.ownNew 3)
          clear hX9 HX8
          go_wp2_with fail
          go_loopw [15, 16] (fun v i wr => ∃ (p q c2 : Nat) (la2 : Option Addr), v = .slice la2 q c2 ∧ i = .int .i64 p ∧ p ≤ j ∧ q ≤ p ∧ Hid (q = (wantL A t p).length) ∧ Hid (Has w [] (((pfinA fb hb ws (K 9) [] [] (wantL A t j)).star (listA (some ⟨lb, lo, none⟩) (aL A 9))).star (ownA 3 la2 q c2 (wantL A t p))) wr)) (fun _ i _ => j - (intOf i).toNat)
          case atStart => exact ⟨0, 0, 0, none, rfl, rfl, by omega, by omega, show 0 = (wantL A t 0).length from by rw [wantL_length, if_pos (by omega)], HX9⟩
          case round =>
            obtain ⟨p, q, c2, la2, rfl, rfl, hp, hq, HQ, HX⟩ := hrel
            obtain ⟨w10, rfl⟩ : ∃ w10, w10 = wr := ⟨_, rfl⟩
            clear HX9
            by_cases hlt : p < j
            · have hdp : decide (p < j) = true := decide_eq_true hlt
              obtain ⟨_, _, e5, _, hcs⟩ := HX.out.fst.snd.list.cells (by rw [aL_length]; omega)
              cases e5
              have hc := hcs p (by rw [aL_length]; omega)
              rw [aL_get A 9 p (by omega)] at hc
              clear hcs
              by_cases hpt : p = t
              · subst hpt
                have HQ2 := (show Hid (q = (wantL A p (p + 1)).length) from by show _ = _; rw [wantL_same]; exact HQ.out)
                have HX2 := (show Hid (Has w [] (((pfinA fb hb ws (K 9) [] [] (wantL A p j)).star (listA (some ⟨lb, lo, none⟩) (aL A 9))).star (ownA 3 la2 q c2 (wantL A p (p + 1)))) w10) from by show Has _ _ _ _; rw [wantL_same]; exact HX.out)
                go_wp2_with fail
                go_roundw
                case rel => exact ⟨p + 1, q, c2, la2, rfl, by go_num, by omega, by omega, HQ2, HX2⟩
                case measure => simp [intOf]; omega
              · have hdpt : ((p : Int) == (t : Int)) = false := by rw [beq_eq_false_iff_ne]; omega
                have hdpt2 : ((p : Int) != (t : Int)) = true := by simp; omega
                have HL := (show Hid (wantL A t (p + 1) = wantL A t p ++ [(A p : Int)]) from wantL_more A t p hpt)
                have HQ2 := (show Hid (q + 1 = (wantL A t (p + 1)).length) from by show _ = _; rw [HL.out, List.length_append, ← HQ.out]; rfl)
                clear hpt
                generalize A p = a at *
                go_wp2_with (first | (at_builtin; refine wpList_append_lies _ rfl (.tmp 89) (.tmp 94) 25 rfl 0 3 i0 (.int .i64 0) 1 8 Try.underlying25 hI.out.1 hI.out.2.1 hI.out.2.2.1 hI.out.2.2.2 rfl (by decide) _ q (ints (wantL A t p)) rfl (HX.out.snd.own.alloc _) ⟨w10.heap.size, 0, none⟩ 1 1 (ints [(a : Int)]) rfl rfl (one_cell _ _ _) (ints_one _) (by omega) (by unfold maxLen; omega) (by omega) (by omega) (w10.heap.size + 1) (by simp) ?_; intro ga ca7 w7 hown7 hgrow7 hblk7 hlt7; rw [ints_app] at hown7; have HX7 := (show Hid (Has w [] (((pfinA fb hb ws (K 9) [] [] (wantL A t j)).star (listA (some ⟨lb, lo, none⟩) (aL A 9))).star (ownA 3 (some ⟨ga, 0, none⟩) (q + 1) ca7 (wantL A t (p + 1)))) w7) from by show Has _ _ _ _; rw [HL.out]; exact (HX.out.keep0 (Keep.alloc [] _ _)).ownMore hown7 hgrow7 hblk7 (by simp) hlt7); clear hown7 hgrow7 hblk7 hlt7))
                go_roundw
                case rel => exact ⟨p + 1, q + 1, ca7, some ⟨ga, 0, none⟩, by rfl, by go_num, by omega, by omega, HQ2, HX7⟩
                case measure => simp [intOf]; omega
            · obtain rfl : p = j := by omega
              have hdp : decide (p < p) = false := decide_eq_false hlt
              have HX1 := (show Hid (Has w [] (((pfinA fb hb ws (K 9) [] [] (wantL A t p)).star (listA (some ⟨lb, lo, none⟩) (aL A 9))).star (listA la2 (wantL A t p))) w10) from (HX.out.comm.map (fun F g => by
                obtain ⟨F1, F2, hF, h1, h2, hd⟩ := g
                exact ⟨F1, F2, hF, ⟨h1.1, (own_at h1.2.1 HX.out.fst.fst.pfin_in.2).1, h1.2.2⟩, h2, hd⟩)).comm)
              obtain ⟨p1, hp1⟩ : ∃ p1 : Nat, (p : Int) - 1 = (p1 : Int) := ⟨p - 1, by omega⟩
              clear HX hlt
              go_wp2_with fail
              refine (has_left HX1.out (fun F hF => has_left hF (fun F hF => pftake (p1 : Int) 0 1 (wantL A t p) _ hF (.no (.inr (by rw [← HQ.out]; have := HWL.out; have := HQ.out; omega))) ⟨by omega, by omega⟩ (by rw [HWL.out]; omega)))).mono ?_
              rintro e w11 ⟨rfl, hX11⟩
              have HX11 := hid hX11
              clear hX11 HX1
              go_wp2_with fail
              refine (has_left HX11.out (fun F hF => has_left hF (fun F hF => pftake (-1) 0 1 (wantL A t p) _ hF (.no (.inl (by omega))) ⟨by omega, by omega⟩ (by rw [HWL.out]; omega)))).mono ?_
              rintro e w12 ⟨rfl, hX12⟩
              have HX12 := hid hX12
              obtain ⟨_, _, e5, _, hcs⟩ := hX12.fst.snd.list.cells (by rw [aL_length]; omega)
              cases e5
              have hc := hcs t (by rw [aL_length]; omega)
              rw [aL_get A 9 t (by omega)] at hc
              have HQS := (show Hid ((wantL A t p).length = q) from HQ.out.symm)
              clear hX12 HX11 hcs hp1
              generalize A t = a at hc
              go_wp2_with (first
                | (go_at_call 7; refine (err_any _ _).mono ?_; rintro e w' ⟨rfl, rfl⟩)
                | (go_at_call 13; refine (pfpending _ HX12.out.fst.fst (by rw [HQS.out]; omega)).mono ?_; rintro e w13 ⟨v13, m13, rfl, hown13, hK13⟩; obtain ⟨l13, c13, rfl, _, _, hX13⟩ := HX12.out.listed2 hK13 hown13 HX12.out.fst.fst.pfin_in.2; rw [HQS.out]; have HX13 := hid hX13; clear hX13 hown13 hK13)
                | (go_at_call 9; refine (same_eq _ _ q _ _ (wantL A t p) _ HX13.out.snd.list HX13.out.fst.snd.list HQS.out (by omega)).mono ?_; rintro e w14 ⟨rfl, hK14⟩)
                | (go_at_call 16; refine (awake15_any _).mono ?_; rintro e w15 ⟨rfl, hK15⟩))
              go_ret
              exact ⟨rfl, HX13.out.K.trans (hK14.trans hK15)⟩

end Go.Proofs.Ytjlbfojbgnhhbaa.finalTakes

namespace Go.Proofs.Ytjlbfojbgnhhbaa.finalTakes
theorem walk (a0 a1 a2 : Int) (w0 : (Lit.int .u8 a0).wf = true) (w1 : (Lit.int .u8 a1).wf = true) (w2 : (Lit.int .i64 a2).wf = true) (w : World) :
    Calls Try.prog 4 #[.int .u8 a0, .int .u8 a1, .int .i64 a2] w fun e w' => e = .returned (.bool true) ∧ Keep [] w w' := by
  have h0 := bounds_u8 w0
  have h1 := bounds_u8 w1
  have h2 := bounds_i64 w2
  obtain ⟨n, rfl⟩ : ∃ n : Nat, a0 = n := ⟨a0.toNat, by omega⟩
  obtain ⟨m, rfl⟩ : ∃ m : Nat, a1 = m := ⟨a1.toNat, by omega⟩
  obtain ⟨r, hr⟩ : ∃ r : Nat, (n : Int) % 8 = r := ⟨((n : Int) % 8).toNat, by omega⟩
  obtain ⟨k, hk⟩ : ∃ k : Nat, 1 + (r : Int) = k := ⟨1 + r, by omega⟩
  exact takes_any n r k m a2 w (by omega) (by omega) hr hk (by omega) (by omega) ⟨by omega, by omega⟩
end Go.Proofs.Ytjlbfojbgnhhbaa.finalTakes
