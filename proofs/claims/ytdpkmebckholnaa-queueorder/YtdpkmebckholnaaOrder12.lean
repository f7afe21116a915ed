/-
  QueueOrder: what was pushed first is polled first; what is polled leads nowhere; each row is its own.
-/
import Derived.Test.YtdpkmebckholnaaPart6
import Derived.Test.YtdpkmebckholnaaOrderQ
import Derived.Test.YtdpkmebckholnaaOpens
namespace Go.Proofs.Ytdpkmebckholnaa.queueOrder
open Go.RowKit

theorem few3 {kd : List PK} {A : Nat → Nat} {ws : List Int} {Ls : List (List Int)} {b : Nat} (h : Rw kd A ws Ls b) (hb : b ≤ 20) : ∀ L, L ∈ Ls → L.length < 999999 := fun L hL => by have := (h.each L hL).1; omega

set_option maxRecDepth 100000 in
set_option maxHeartbeats 8000000 in
theorem walk (ao : Option Addr) (n c : Nat) (B : Nat → Nat) (_ : n ≤ 9223372036854775807) (w : World) (u0 : U8At w ao n B) :
    Calls Try.prog 3 #[.slice ao n c] w fun e w' => e = .returned (.bool true) ∧ Keep [] w w' := by
  have HB := (show Hid (U8At w ao n B) from u0)
  clear u0
  obtain ⟨W, K, A, hC⟩ := chain_ex 20 (by omega)
  have HC := hid hC
  have HR0 := (show Hid (Rw (K 20) A (W 20) (nQ 3) 0) from .start (hC.fine 20 (by omega)).1 (fun j hj => by obtain ⟨m, c, h⟩ := hC.refs 20 (by omega) j hj; exact ⟨m, c, h⟩))
  clear hC
  obtain ⟨i0, hi, hz0, hz1, hz2⟩ := info_parts Try.infoInt12
  have hI : Hid (Try.prog.info? 3 = some i0 ∧ i0.zero = some (.int .i64 0) ∧ i0.size = 1 ∧ i0.bytes = 8) := ⟨hi, hz0, hz1, hz2⟩
  clear hi hz0 hz1 hz2
  have hmk : ∀ w, (Instr.makeSlice 33 (.int .i64 3) (.int .i64 3)).run Try.prog w = .ok (.slice (some ⟨w.heap.size, 0, none⟩) 3 3) (w.alloc (.cells (madeCells #[.slice none 0 0] 3) 24)) := by
    intro w
    exact run_make_row' (P := Try.prog) 33 24 (.slice none 0 0) 24 Try.underlying33 Try.infoRowQ rfl .i64 .i64 3 (by omega) (by omega) w
  go_enter Try.func3, Try.ntmps3
  go_wp2_with fail
  refine (heap12 20 20 HC.out (by omega) (by omega) _).mono ?_
  rintro e w1 ⟨hb, la, lc, rfl, hX⟩
  have HX := hid hX
  clear hX
  go_wp2_with fail
  refine (has_left_ex HX.out (fun F hF => qnew _ hF)).mono ?_
  rintro e w2 ⟨qb, rfl, hQ⟩
  have HQ := (show Hid (Has w [] ((queueA qb hb (W 20) (K 20) [] (nQ 0)).star (listA la (aL A 20))) w2) from hQ)
  clear hQ HX
  obtain ⟨lb, lo, rfl, _⟩ := HQ.out.qlen (by omega)
  go_wp2_with fail
  go_loopw [6] (fun i wr => ∃ j : Nat, i = .int .i64 j ∧ j ≤ 3 ∧ Hid (Has w [] ((queueA qb hb (W 20) (K 20) [] (nQ j)).star (listA (some ⟨lb, lo, none⟩) (aL A 20))) wr)) (fun i _ => 3 - (intOf i).toNat)
  case atStart => exact ⟨0, rfl, by omega, HQ⟩
  case round =>
    obtain ⟨j, rfl, hj, HX⟩ := hrel
    obtain ⟨w3, rfl⟩ : ∃ w3, w3 = wr := ⟨_, rfl⟩
    clear HQ
    by_cases hlt : j < 3
    · have hd : decide ((j : Int) < 3) = true := decide_eq_true (by omega)
      go_wp2_with fail
      refine (has_left HX.out (fun F hF => qopen_yes _ hF (by rw [nQ_length]; omega))).mono ?_
      rw [nQ_length, nQ_more]
      rintro e w4 ⟨rfl, hX4⟩
      have HX4 := hid hX4
      clear hX4
      go_wp2_with (first | (go_at_call 11; refine (err_any _ _).mono ?_; rintro e w' ⟨rfl, rfl⟩))
      go_roundw
      case rel => exact ⟨j + 1, by go_num, by omega, HX4⟩
      case measure => simp [intOf]; omega
    · obtain rfl : j = 3 := by omega
      go_upto_region 12 with fail
      rw [show ((3 : Nat) : Int) = 3 from rfl]
      have HY0 := (show Hid (Has w [] (((queueA qb hb (W 20) (K 20) [] (nQ 3)).star (listA (some ⟨lb, lo, none⟩) (aL A 20))).star (llA (some ⟨w3.heap.size, 0, none⟩) 3 (nQ 3))) (w3.alloc (.cells (madeCells #[.slice none 0 0] 3) 24))) from HX.out.llMade 3 (by omega))
      generalize w3.alloc (.cells (madeCells #[.slice none 0 0] 3) 24) = w4 at *
      generalize w3.heap.size = g at *
      clear HX hmk
      go_wp2_with fail
      go_loopw [10] (fun i wr => ∃ (j : Nat) (ws : List Int) (Ls : List (List Int)), i = .int .i64 j ∧ j ≤ n ∧ j ≤ 20 ∧ Hid (Rw (K 20) A ws Ls j) ∧ Hid (Has w [] (((queueA qb hb ws (K 20) [] Ls).star (listA (some ⟨lb, lo, none⟩) (aL A 20))).star (llA (some ⟨g, 0, none⟩) 3 Ls)) wr)) (fun i _ => 20 - (intOf i).toNat)
      case atStart => exact ⟨0, _, _, rfl, by omega, by omega, HR0, HY0⟩
      case round =>
        obtain ⟨j, ws, Ls, rfl, hjn, hj20, HR, HY⟩ := hrel
        obtain ⟨w5, rfl⟩ : ∃ w5, w5 = wr := ⟨_, rfl⟩
        clear HR0 HY0
        by_cases hlt2 : j < n ∧ j < 20
        · obtain ⟨hn, h20⟩ := hlt2
          have d1 : decide (j < n) = true := decide_eq_true hn
          have d2 : decide ((j : Int) < 20) = true := decide_eq_true (by omega)
          obtain ⟨ab, aof, rfl, hab, hca⟩ := HB.out.cells (by omega)
          have hc0 := (HY.out.K.cell hab (by simp) (aof + j)).trans (hca j hn)
          have hbl := HB.out.lt j
          obtain ⟨x, hx⟩ : ∃ x, B j = x := ⟨_, rfl⟩
          rw [hx] at hc0 hbl
          obtain ⟨k, hk⟩ : ∃ k, x % 3 = k := ⟨_, rfl⟩
          have hk3 : k < 3 := by omega
          have hki : (x : Int) % 3 = k := by omega
          have hk3i : (k : Int) < 3 := by omega
          have hk0i : (0 : Int) ≤ k := by omega
          have h20i : (j : Int) < 20 := by omega
          have hj0i : (0 : Int) ≤ j := by omega
          obtain ⟨_, _, e, hcs⟩ := HY.out.fst.qlen (by omega)
          cases e
          have hc1 := hcs j h20
          obtain ⟨L, hL⟩ : ∃ L, Ls[k]? = some L := ⟨_, List.getElem?_eq_getElem (by rw [HR.out.three]; exact hk3)⟩
          obtain ⟨ws', hP, hR'⟩ := HR.out.push h20 hL
          have hab2 := HC.out.bd j h20
          obtain ⟨a, ha⟩ : ∃ a, A j = a := ⟨_, rfl⟩
          rw [ha] at hc1 hP hR' hab2
          have HA := hid ha
          have HP := hid hP
          have HR2 := hid hR'
          have HL := hid hL
          have HLb := (show Hid (L.length ≤ 20) from by have := (HR.out.each L (List.mem_of_getElem? hL)).1; show L.length ≤ 20; omega)
          have HKL := (show Hid (k < Ls.length) from by show k < _; rw [HR.out.three]; exact hk3)
          have HF := (show Hid (∀ L, L ∈ Ls → L.length < 999999) from few3 HR.out hj20)
          clear hca hx hk hcs hL hP hR' ha HR
          go_upto_region 16 with fail
          have hc1' := hc1
          go_wp2_with fail
          refine (has_left (Has.assoc HY.out) (fun F hF => qpush (k : Int) (a : Int) 0 _ _ _ hF HP.out (by unfold inI; omega) HF.out)).mono ?_
          rintro e w6 ⟨rfl, hY6⟩
          have HY6 := hid hY6.assoc'
          clear hY6 HY hc1 hc1' hc0
          go_upto_region 18 with (first | (go_at_call 11; refine (err_any _ _).mono ?_; rintro e w' ⟨rfl, rfl⟩))
          obtain ⟨_, v, e, c2, f2, hm, hne⟩ := HY6.out.snd.llCell HL.out
          cases e
          obtain ⟨lr, cr, rfl⟩ := hm.form
          obtain ⟨_, _, e, hcs⟩ := HY6.out.fst.qlen (by omega)
          cases e
          have c1 := hcs j h20
          rw [HA.out] at c1
          obtain ⟨q, hq⟩ : ∃ q, L.length = q := ⟨_, rfl⟩
          have HQL := hid hq
          rw [hq] at c2 hm hne
          have HM := (show Hid (∀ w', Keep [] w6 w' → IsMid w' 3 (.slice lr q cr) L) from fun w' K => hm.keep K (by simp))
          have HNE := (show Hid (g ∉ (Value.slice lr q cr).ownBlock.toList) from fun e => hne (by simpa using e))
          have hl2 := lt_of_cell2' c2
          clear hcs hm hne hq
          go_region_law (first | (refine step_append_mid _ rfl (.tmp 80) (.tmp 85) 24 rfl 3 i0 Try.underlying24 hI.out (.slice lr q cr) L rfl (HM.out _ (by first | exact (Keep.drew [] _).trans (Keep.alloc [] _ _) | exact (Keep.alloc [] _ _).trans (Keep.drew [] _))) w6.heap.size a 1 rfl (cell_of_one (heap_alloc_new _ _)) (by have := HLb.out; omega) ?_; intro v5 w7 hm5 hk5 hb5; obtain ⟨l5, c5, rfl⟩ := hm5.form; have hK5 : Keep (Value.slice lr q cr).ownBlock.toList w6 w7 := ((by first | exact (Keep.drew _ _).trans (Keep.alloc _ _ _) | exact (Keep.alloc _ _ _).trans (Keep.drew _ _)) : Keep (Value.slice lr q cr).ownBlock.toList w6 _).trans hk5; have HB5 := (show Hid (∀ k, (Value.slice l5 _ c5).ownBlock = some k → (Value.slice lr q cr).ownBlock = some k ∨ w6.heap.size ≤ k) from fun k e => (hb5 k e).imp id (fun g => by simp at g; omega)); have c25 := (hK5.cell hl2 HNE.out k).trans c2; have f25 := (World.frozen?_of_block (w := w6) (a := ⟨g, k, none⟩) (hK5.block g hl2 HNE.out)).trans f2; have HM5 := hid hm5; have HK5 := hid hK5; clear hm5 hk5 hb5 hK5))
          all_goals
            have e2 : (L ++ [(a : Int)]).length = L.length + 1 := by simp
            have h5 := HM5.out
            have h6 := HB5.out
            rw [e2] at h5 h6
            have HYS := (show Hid (Has w [] (((queueA qb hb ws' (K 20) [] (Ls.set k (L ++ [(a : Int)]))).star (listA (some ⟨lb, lo, none⟩) (aL A 20))).star (llA (some ⟨g, 0, none⟩) 3 (Ls.set k (L ++ [(a : Int)])))) (w7.setCell ⟨g, k, none⟩ (.slice l5 (L.length + 1) c5))) from
              (Has.left HY6.out.comm (fun F e => Has.llPut (Has.start e) HKL.out c2 h5 HK5.out h6)).comm)
            clear h5 h6 e2
          all_goals (go_wp2_with fail)
          all_goals
            go_roundw
            case rel => exact ⟨j + 1, ws', _, by go_num, by omega, by omega, HR2, HYS⟩
            case measure => simp [intOf]; omega
        · have hd : decide (j < n) = false ∨ decide ((j : Int) < 20) = false := by
            rcases Nat.lt_or_ge j n with h | h
            · right; rw [decide_eq_false_iff_not]; omega
            · left; rw [decide_eq_false_iff_not]; omega
          have HRA := (show Hid (Rw (K 20) A ws Ls 20) from ⟨HR.out.fine, HR.out.refs, HR.out.three, fun L hL => by have := HR.out.each L hL; exact ⟨by omega, this.2⟩⟩)
          have HG0 := (show Hid (Gone Ls Ls 0 0) from Gone.start Ls)
          have HL3 := (show Hid (Ls.length = 3) from HR.out.three)
          have HSM := (show Hid (∀ L, L ∈ Ls → L.length ≤ 20 ∧ inR L) from fun L hL => by have := HR.out.small hL; exact ⟨by omega, this.2⟩)
          clear HR
          have hsplit : (decide (j < n) = true ∧ decide ((j : Int) < 20) = false) ∨ decide (j < n) = false := by
            rcases hd with h | h
            · exact .inr h
            · by_cases h2 : j < n
              · exact .inl ⟨decide_eq_true h2, h⟩
              · exact .inr (decide_eq_false h2)
          clear hd hlt2
          rcases hsplit with ⟨d1, d2⟩ | d1
          all_goals
            go_upto_region 19 with fail
            go_wp2_with fail
            go_loopw [12] (fun i wr => ∃ (k : Nat) (vs : List Int) (Qs : List (List Int)), i = .int .i64 k ∧ k ≤ 3 ∧ Hid (Rw (K 20) A vs Qs 20) ∧ Hid (Gone Ls Qs k 0) ∧ Hid (Has w [] (((queueA qb hb vs (K 20) [] Qs).star (listA (some ⟨lb, lo, none⟩) (aL A 20))).star (llA (some ⟨g, 0, none⟩) 3 Ls)) wr)) (fun i _ => 3 - (intOf i).toNat)
            case atStart => exact ⟨0, _, _, rfl, by omega, HRA, HG0, HY⟩
            case round =>
              obtain ⟨k, vs, Qs, rfl, hk, HR, HG, HY⟩ := hrel
              obtain ⟨w6, rfl⟩ : ∃ w6, w6 = wr := ⟨_, rfl⟩
              clear HRA HG0
              by_cases hlt3 : k < 3
              · have hd3 : decide ((k : Int) < 3) = true := decide_eq_true (by omega)
                have hk3i : (k : Int) < 3 := by omega
                have hk0i : (0 : Int) ≤ k := by omega
                obtain ⟨R, hR⟩ : ∃ R, Ls[k]? = some R := ⟨_, List.getElem?_eq_getElem (by rw [HL3.out]; exact hlt3)⟩
                have HRK := hid hR
                obtain ⟨m, hm⟩ : ∃ m, R.length = m := ⟨_, rfl⟩
                have hm20 : m ≤ 20 := by have := (HSM.out R (List.mem_of_getElem? hR)).1; omega
                have HIR := (show Hid (inR R) from (HSM.out R (List.mem_of_getElem? hR)).2)
                have HM := hid hm
                clear hR hm
                go_wp2_with fail
                go_loopw [13] (fun i wr => ∃ (i0 : Nat) (vs : List Int) (Qs : List (List Int)), i = .int .i64 i0 ∧ i0 ≤ m ∧ Hid (Rw (K 20) A vs Qs 20) ∧ Hid (Gone Ls Qs k i0) ∧ Hid (Has w [] (((queueA qb hb vs (K 20) [] Qs).star (listA (some ⟨lb, lo, none⟩) (aL A 20))).star (llA (some ⟨g, 0, none⟩) 3 Ls)) wr)) (fun i _ => m - (intOf i).toNat)
                case atStart => exact ⟨0, _, _, rfl, by omega, HR, HG, HY⟩
                case round =>
                  obtain ⟨i, vs, Qs, rfl, hi, HR, HG, HY⟩ := hrel
                  obtain ⟨w7, rfl⟩ : ∃ w7, w7 = wr := ⟨_, rfl⟩
                  obtain ⟨_, v, e, c2, _, hmd, _⟩ := HY.out.snd.llCell HRK.out
                  cases e
                  obtain ⟨lr, cr, rfl⟩ := hmd.form
                  rw [HM.out] at c2
                  clear hmd
                  by_cases hlt4 : i < m
                  · have hd4 : decide (i < m) = true := decide_eq_true hlt4
                    obtain ⟨a, Qs', hRi, ha1, ha0, hP, hW, hG, hF⟩ := HG.out.poll HR.out HRK.out (by rw [HM.out]; exact hlt4)
                    have HP := hid hP
                    have HW := hid hW
                    have HG2 := hid hG
                    have HFL := hid hF
                    have HRI := hid hRi
                    clear hRi hP hW hG hF HR HG
                    go_wp2_with fail
                    refine (has_left (Has.assoc HY.out) (fun F hF => qpoll (k : Int) (a : Int) 0 _ _ _ hF HP.out)).mono ?_
                    rintro e w8 ⟨rfl, hY8⟩
                    have HY8 := hid hY8.assoc'
                    clear hY8 HY c2
                    go_wp2_with fail
                    refine (has_fst HY8.out (fun h => ofield (a : Int) 2 0 0 _ h.fst.qheap HFL.out)).mono ?_
                    rintro e w9 ⟨rfl, hY9⟩
                    have HY9 := hid hY9
                    clear hY9 HY8
                    obtain ⟨_, v, e, c2, _, hmd, _⟩ := HY9.out.snd.llCell HRK.out
                    cases e
                    obtain ⟨lr2, cr2, rfl⟩ := hmd.form
                    rw [HM.out] at c2 hmd
                    obtain ⟨hI9, _, _, _⟩ := hmd.ints HIR.out
                    obtain ⟨rb, ro, rfl, _, hcr⟩ := hI9.cells (by have := HM.out; omega)
                    have hc9 := hcr i (by rw [HM.out]; exact hlt4)
                    rw [HRI.out] at hc9
                    clear hmd hI9 hcr
                    go_wp2_with (first | (go_at_call 11; refine (err_any _ _).mono ?_; rintro e w' ⟨rfl, rfl⟩))
                    go_roundw
                    case rel => exact ⟨i + 1, _, _, by go_num, by omega, HW, HG2, HY9⟩
                    case measure => simp [intOf]; omega
                  · obtain rfl : i = m := by omega
                    have hd4 : decide (i < i) = false := decide_eq_false (by omega)
                    have HE := (show Hid (Qs[k]? = some []) from by
                      have := HG.out.now R HRK.out
                      rw [List.drop_of_length_le (by rw [HM.out]; exact Nat.le_refl _)] at this
                      exact this)
                    have HG2 := (show Hid (Gone Ls Qs (k + 1) 0) from HG.out.row)
                    clear HG
                    go_wp2_with fail
                    refine (qpoll_empty k _ HY.out.fst.fst HE.out).mono ?_
                    rintro e w8 ⟨rfl, rfl⟩
                    go_wp2_with (first | (go_at_call 11; refine (err_any _ _).mono ?_; rintro e w' ⟨rfl, rfl⟩))
                    go_roundw
                    case rel => exact ⟨k + 1, _, _, by go_num, by omega, HR, HG2, HY⟩
                    case measure => simp [intOf]; omega
              · obtain rfl : k = 3 := by omega
                go_wp2_with (first | (go_at_call 15; refine (awake12_any _).mono ?_; rintro e w9 ⟨rfl, hK9⟩))
                go_ret
                exact ⟨rfl, HY.out.K.trans hK9⟩

end Go.Proofs.Ytdpkmebckholnaa.queueOrder
