/-
  MarkRows answers true, whatever it is given.
-/
import Derived.Test.YtgpidokklhjfdaaRowsM
import Derived.Test.YtgpidokklhjfdaaPart7
import Derived.Test.YtgpidokklhjfdaaMarks17
import Derived.Deep.RegionLaw
namespace Go.Proofs.Ytgpidokklhjfdaa.markRows
open Go.RowKit
theorem row_cells {w0 w : World} {F0 : List Nat} {n c w30 : Nat} {la : Option Addr} {W : Nat → List Int} {K : Nat → List PK} {A : Nat → Nat} (hC : PChain 200 [] n (fun _ => 2) (fun _ => 0) (fun _ => (w30 : Int)) W K A) (h : Has w0 F0 (midA 3 (.slice la n c) (aL A n)) w) (hn : 0 < n) : ∃ b o, la = some ⟨b, o, none⟩ ∧ ∀ w', Keep [] w w' → ∀ i, i < n → w'.cell? ⟨b, o + i, none⟩ = some (.int .i64 (A i)) := by
  have hI := h.mint (fun i => by
    by_cases hi : i < n
    · rw [aL_get A n i hi]; have := rows_bd hC i hi; omega
    · rw [List.getElem?_eq_none (by rw [aL_length]; omega)]; simp)
  obtain ⟨b, o, rfl, hb, hc⟩ := hI.cells (by rw [aL_length]; exact hn)
  refine ⟨b, o, rfl, fun w' K i hi => ?_⟩
  rw [K.cell hb (by simp), hc i (by rw [aL_length]; exact hi), aL_get A n i hi]
theorem row_cells' {w0 w : World} {F0 : List Nat} {n c : Nat} {la : Option Addr} {A : Nat → Nat} (hB : ∀ t, t < n → 64 ≤ A t ∧ A t < 16384) (h : Has w0 F0 (midA 3 (.slice la n c) (aL A n)) w) (hn : 0 < n) : ∃ b o, la = some ⟨b, o, none⟩ ∧ ∀ w', Keep [] w w' → ∀ i, i < n → w'.cell? ⟨b, o + i, none⟩ = some (.int .i64 (A i)) := by
  have hI := h.mint (fun i => by
    by_cases hi : i < n
    · rw [aL_get A n i hi]; have := hB i hi; omega
    · rw [List.getElem?_eq_none (by rw [aL_length]; omega)]; simp)
  obtain ⟨b, o, rfl, hb, hc⟩ := hI.cells (by rw [aL_length]; exact hn)
  refine ⟨b, o, rfl, fun w' K i hi => ?_⟩
  rw [K.cell hb (by simp), hc i (by rw [aL_length]; exact hi), aL_get A n i hi]
set_option maxRecDepth 100000 in
set_option maxHeartbeats 12800000 in
theorem rows_any (nn ff wd ss k t40 w30 t30 m4 t4 j : Nat) (w : World) (_ : nn < 256) (_ : ff < 256) (_ : wd < 256) (_ : ss < 256) (h40 : (nn : Int) % 40 = t40) (hk : 2 + (t40 : Int) = k) (h30 : (wd : Int) % 30 = t30) (hw : 1 + (t30 : Int) = w30) (h4 : (ss : Int) % 4 = t4) (hm : 1 + (t4 : Int) = m4) (hj : ff % k = j) (hk2 : 2 ≤ k) (hk41 : k ≤ 41) (hw1 : 1 ≤ w30) (hw30 : w30 ≤ 30) (hm1 : 1 ≤ m4) (_ : m4 ≤ 4) :
    Calls Try.prog 3 #[.int .u8 nn, .int .u8 ff, .int .u8 wd, .int .u8 ss] w fun e w' => e = .returned (.bool true) ∧ Keep [] w w' := by
  obtain ⟨i0, hi, hz0, hz1, hz2⟩ := info_parts Try.infoIntTr
  have hI : Hid (Try.prog.info? 3 = some i0 ∧ i0.zero = some (.int .i64 0) ∧ i0.size = 1 ∧ i0.bytes = 8) := ⟨hi, hz0, hz1, hz2⟩
  obtain ⟨W, K, A, hC⟩ := rows_ex k w30 hk41 hw30
  have HC := hid hC
  have HJ := (show Hid (ff % k = j ∧ j < k) from ⟨hj, by rw [← hj]; exact Nat.mod_lt _ (by omega)⟩)
  have HR := (show Hid (∀ i : Nat, inR (aL A i) ∨ True) from fun _ => .inr trivial)
  clear hi hz0 hz1 hz2 hC hj HR
  go_enter Try.func3, Try.ntmps3
  go_wp2_with fail
  refine (onew_has 200 _ (by omega) (by omega)).mono ?_
  rintro e w1 ⟨hb, rfl, hH⟩
  have HX1 := (show Hid (Has w [] ((heapA hb (W 0) (K 0) []).star (midA 3 (.slice none 0 0) (aL A 0))) w1) from by
    rw [HC.out.w0, HC.out.k0]
    exact hH.more (Keep.refl [] _) (G := []) ⟨rfl, IsMid.nil _ _⟩ (fun k hk => by cases hk))
  clear hH
  go_wp2_with (first | (go_at_call 8; refine (owhole _ HX1.out.fst).mono ?_; rintro e w' ⟨rfl, rfl⟩) | (go_at_call 9; refine (err_any _ _).mono ?_; rintro e w' ⟨rfl, rfl⟩))
  rw [h40, h30]
  clear h40 h30 hk hw
  go_loopw [13, 14] (fun v13 v14 wr => ∃ (i lc : Nat) (la : Option Addr), v13 = .slice la i lc ∧ v14 = .int .i64 i ∧ i ≤ k ∧ Hid (Has w [] ((heapA hb (W i) (K i) []).star (midA 3 (.slice la i lc) (aL A i))) wr)) (fun _ v14 _ => k - (intOf v14).toNat)
  case atStart => exact ⟨0, 0, none, rfl, rfl, by omega, HX1.out⟩
  case round =>
    obtain ⟨i, lc, la, rfl, rfl, hi, HX⟩ := hrel
    clear HX1
    by_cases hlt : i < k
    · have hd : decide ((i : Int) < (k : Int)) = true := decide_eq_true (by omega)
      have HT := hid (HC.out.step i hlt)
      have hab := (HC.out.ot (i + 1) (by omega)).bd i (by omega)
      have HL := (show Hid (aL A (i + 1) = aL A i ++ [(A i : Int)]) from aL_snoc A i)
      generalize A i = a at *
      go_wp2_with fail
      refine (has_left HX.out (fun F hF => omake 2 0 w30 a 0 false _ _ _ hF HT.out)).mono ?_
      rintro e w4 ⟨rfl, hX4⟩
      have HX5 := hid (hX4.keep0 (Keep.alloc [] w4 (.cells #[.int .i64 (a : Int)] 3)))
      clear hX4 HX
      go_wp2_with (first
        | (go_at_call 9; refine (err_any _ _).mono ?_; rintro e w' ⟨rfl, rfl⟩)
        | (at_builtin; refine wpList_append_mid _ rfl (.tmp 65) (.tmp 67) 28 rfl 3 i0 Try.underlying28 hI.out (.slice la i lc) (aL A i) rfl (HX5.out.snd.fact (fun _ h => h.2)) w4.heap.size a 1 rfl (cell_of_one (heap_alloc_new _ _)) (by rw [aL_length]; omega) ?_; intro v7 w7 hm7 hK7 hg7; have HX7 := hid (HX5.out.midTurn hK7 hm7 hg7); obtain ⟨l7, c7, hv7⟩ := hm7.form; rw [← HL.out] at HX7; rw [← HL.out, aL_length] at hv7; subst hv7; clear hm7 hK7 hg7))
      go_roundw
      case rel => exact ⟨i + 1, c7, l7, rfl, by go_num, by omega, HX7⟩
      case measure => simp [intOf]; omega
    · have hik : i = k := by omega
      have hd : decide ((i : Int) < (k : Int)) = false := decide_eq_false (by omega)
      have HX4 := (show Hid (Has w [] ((heapA hb (rP (W k) A k w30 0) (K k) []).star (midA 3 (.slice la k lc) (aL A k))) wr) from by
        have h := HX.out
        rw [hik] at h
        exact h)
      rw [hik]
      clear HX hik hd hi hlt
      have hd : decide ((k : Int) < (k : Int)) = false := decide_eq_false (by omega)
      go_wp2_with fail
      clear hd
      go_loopw [17] (fun v wq => ∃ i : Nat, v = .int .i64 i ∧ i + 1 ≤ k ∧ Hid (Has w [] ((heapA hb (rP (W k) A k w30 i) (K k) []).star (midA 3 (.slice la k lc) (aL A k))) wq)) (fun v _ => k - (intOf v).toNat)
      case atStart => exact ⟨0, rfl, by omega, HX4.out⟩
      case round =>
        obtain ⟨i, rfl, hi, HX⟩ := hrel
        clear HX4
        by_cases hlt : i + 1 < k
        · have hd : decide ((i : Int) + 1 < (k : Int)) = true := decide_eq_true (by omega)
          go_wp2_with fail
          go_loopw [18] (fun v wq => ∃ t : Nat, v = .int .i64 t ∧ t ≤ w30 ∧ Hid (Has w [] ((heapA hb (putsK (rP (W k) A k w30 i) (A i + 1) (rZ A k w30 i) t) (K k) []).star (midA 3 (.slice la k lc) (aL A k))) wq)) (fun v _ => w30 - (intOf v).toNat)
          case atStart => exact ⟨0, rfl, by omega, HX.out⟩
          case round =>
            obtain ⟨t, rfl, ht, HX3⟩ := hrel
            clear HX
            have HX := HX3
            clear HX3
            obtain ⟨lb, lo, rfl, hcl⟩ := row_cells HC.out HX.out.snd (by omega)
            by_cases hlt2 : t < w30
            · have hd2 : decide ((t : Int) < (w30 : Int)) = true := decide_eq_true (by omega)
              obtain ⟨d, e1⟩ : ∃ d : Nat, (k : Int) - 1 - (i : Int) = d := ⟨k - 1 - i, by omega⟩
              have hdk : k - 1 - i = d := by omega
              obtain ⟨r, hr⟩ : ∃ r, t % d = r := ⟨_, rfl⟩
              have hri : (t : Int) % (d : Int) = r := by rw [← hr]; rfl
              have hrt : (t : Int).tmod (d : Int) = r := by rw [Int.tmod_eq_emod_of_nonneg (by omega)]; exact hri
              have hrd : r < d := by rw [← hr]; exact Nat.mod_lt _ (by omega)
              have hP := rows_put HC.out i t hlt hlt2
              rw [hdk, hr] at hP
              obtain ⟨s, hs⟩ : ∃ s, i + 1 + r = s := ⟨_, rfl⟩
              have hsi : (i : Int) + 1 + (r : Int) = s := by omega
              rw [hs] at hP
              have HP := hid hP
              have hbs := rows_bd HC.out s (by omega)
              have c1 := hcl wr.drew (Keep.drew [] _) i (by omega)
              have c2 := hcl wr.drew (Keep.drew [] _) s (by omega)
              have HXd := hid (HX.out.keep0 (Keep.drew [] wr))
              have hd0 : ((d : Int) == 0) = false := by simp; omega
              have hd1 : (d : Int) ≠ 0 := by omega
              have hd3 : ¬ d = 0 := by omega
              have hik : i < k := by omega
              have hsk : s < k := by omega
              obtain ⟨kp, hkp⟩ : ∃ kp : Nat, (k : Int) - 1 = kp := ⟨k - 1, by omega⟩
              have hwk : IntKind.i64.wrap ((k : Int) - 1) = kp := by rw [hkp]; exact IntWalk.i64_in _ (by omega)
              have hwk1 : IntKind.i64.wrap (kp : Int) = kp := IntWalk.i64_in _ (by omega)
              have e2 : (kp : Int) - (i : Int) = d := by omega
              have hwd : IntKind.i64.wrap ((kp : Int) - (i : Int)) = d := by rw [e2]; exact IntWalk.i64_in _ (by omega)
              have hwd1 : IntKind.i64.wrap (d : Int) = d := IntWalk.i64_in _ (by omega)
              have hwi : IntKind.i64.wrap ((i : Int) + 1) = (i : Int) + 1 := IntWalk.i64_in _ (by omega)
              have hws : IntKind.i64.wrap ((i : Int) + 1 + (r : Int)) = s := by rw [hsi]; exact IntWalk.i64_in _ (by omega)
              have hws1 : IntKind.i64.wrap (s : Int) = s := IntWalk.i64_in _ (by omega)
              clear hP hr hs hcl hdk
              go_wp2_with fail
              go_region_law (go_simp; refine (has_left HXd.out (fun F hF => oput (A i) t (A s) 0 _ _ hF HP.out (by unfold inI; omega))).mono ?_; rintro e w4 ⟨rfl, hX4⟩; have HX4 := hid hX4)
              all_goals (clear hwk hwk1 hwd hwd1 hwi hws hws1 e1 e2 hkp hsi hri hrt)
              all_goals (go_wp2_with fail)
              all_goals go_roundw
              all_goals first
                | exact ⟨t + 1, by go_num, by omega, HX4⟩
                | (simp [intOf]; omega)
            · obtain rfl : t = w30 := by omega
              have hd2 : decide ((t : Int) < (t : Int)) = false := decide_eq_false (by omega)
              have HP := hid (rows_again HC.out i hlt (by omega))
              have hbs := rows_bd HC.out (i + 1) hlt
              have c1 := hcl wr.drew (Keep.drew [] _) i (by omega)
              have c2 := hcl wr.drew (Keep.drew [] _) (i + 1) (by omega)
              have HXd := hid (HX.out.keep0 (Keep.drew [] wr))
              have hik : i < k := by omega
              have hwi : IntKind.i64.wrap ((i : Int) + 1) = (i : Int) + 1 := IntWalk.i64_in _ (by omega)
              have hi0 : 0 ≤ (i : Int) + 1 := by omega
              have hi1 : (i : Int) + 1 < (k : Int) := by omega
              clear hcl
              go_wp2_with fail
              go_region_law (go_simp; refine (has_left HXd.out (fun F hF => oput (A i) 0 (A (i + 1)) 0 _ _ hF HP.out (by unfold inI; omega))).mono ?_; rintro e w4 ⟨rfl, hX4⟩; have HX4 := hid hX4)
              all_goals (clear hwi)
              all_goals (go_wp2_with fail)
              all_goals go_roundw
              all_goals first
                | exact ⟨i + 1, by go_num, by omega, HX4⟩
                | (simp [intOf]; omega)
        · have hik : k = i + 1 := by omega
          have hd : decide ((i : Int) + 1 < (k : Int)) = false := decide_eq_false (by omega)
          have hi41 : i ≤ 41 := by omega
          obtain ⟨r, W2, W3, K2, hm1', hp1, hr, hOk, hE⟩ := rows_end HC.out hk2 hk41 hw1
          obtain ⟨ys, hT, hon, hal, hlen⟩ := hE j HJ.out.2
          rw [show k - 1 = i by omega] at hm1'
          have HMK := hid hm1'
          have HPT := hid hp1
          have HO := hid hOk
          have HT := hid hT
          have HON := (show Hid (onM ys (r : Int) = true ∧ ∀ t, t < k → onM ys (A t : Int) = decide (j ≤ t)) from ⟨hon, hal⟩)
          obtain ⟨q, hq⟩ : ∃ q, k - j + 1 = q := ⟨_, rfl⟩
          rw [hq] at hlen
          have HQ := (show Hid ((marksL ys).length = q ∧ k - j + 1 = q) from ⟨hlen, hq⟩)
          have HB := (show Hid (∀ t, t < k → 64 ≤ A t ∧ A t < 16384) from rows_bd HC.out)
          obtain ⟨lb, lo, rfl, hcl⟩ := row_cells HC.out HX.out.snd (by omega)
          have HYL := (show Hid (ys.length ≤ 16384) from by
            show _ ≤ _
            rw [hT.len, offs_length]
            have h1 := hp1.fine (hm1'.fine HX.out.fst.fine).1 (by have := rows_bd HC.out 0 (by omega); unfold inI; omega)
            have h2 := h1.len
            have h3 := h1.wf.len2
            omega)
          clear hm1' hp1 hOk hT hon hal hlen hE hq hcl hi HC hik hlt
          go_wp2_with fail
          refine (has_left HX.out (fun F hF => omake 4 1 5 r 0 false _ _ _ hF HMK.out)).mono ?_
          rintro e w4 ⟨rfl, hX4⟩
          have HX4 := hid hX4
          obtain ⟨lb', lo', e', hcl⟩ := row_cells' HB.out hX4.snd (by omega)
          cases e'
          have c0 := hcl _ (Keep.refl _ _) 0 (by omega)
          rw [Nat.add_zero] at c0
          have hb0 := HB.out 0 (by omega)
          have hk0 : 0 < k := by omega
          clear hX4 HX HMK hcl
          go_wp2_with fail
          refine (has_left HX4.out (fun F hF => oput r 0 (A 0) 0 _ _ hF HPT.out (by unfold inI; omega))).mono ?_
          rintro e w5 ⟨rfl, hX5⟩
          have HX5 := hid hX5
          clear hX5 HX4 HPT c0
          go_wp2_with fail
          refine (has_left_ex HX5.out (fun F hF => tnew_yes m4 _ hF hm1 (by omega))).mono ?_
          rintro e w6 ⟨tb, rfl, hX6⟩
          have HX6 := hid hX6
          obtain ⟨_, _, ct, _⟩ := hX6.fst.snd.trb
          obtain ⟨lb', lo', e', hcl⟩ := row_cells' HB.out hX6.snd (by omega)
          cases e'
          have hjk := HJ.out.2
          have hji : (ff : Int) % (k : Int) = j := by rw [← HJ.out.1]; rfl
          have hjt : (ff : Int).tmod (k : Int) = j := by rw [Int.tmod_eq_emod_of_nonneg (by omega)]; exact hji
          have hkz : ((k : Int) == 0) = false := by simp; omega
          have hkz1 : (k : Int) ≠ 0 := by omega
          have hkz2 : ¬ k = 0 := by omega
          have cj := hcl _ (Keep.refl _ _) j hjk
          clear hX6 HX5 hcl
          go_wp2_with (first | (go_at_call 9; refine (err_any _ _).mono ?_; rintro e w' ⟨rfl, rfl⟩))
          have HX7 := hid (HX6.out.newB (.cells (ints [(A j : Int), (r : Int), 0, -5]).toArray 3 (0, 0))).assoc
          have HAJ := hid (HB.out j hjk)
          clear HX6 ct cj
          refine (tmark (some ⟨w6.heap.size, 0, none⟩) 4 4 [(A j : Int), (r : Int), 0, -5] _ HX7.out (fun A' w' h => ints_blkG (h.snd.snd.fact (fun _ h => h.2)) (fun i => by have := HAJ.out; rcases i with _ | _ | _ | _ | i <;> simp <;> omega)) rfl (by omega) HO.out HT.out).mono ?_
          rintro e w8 ⟨rfl, hX8⟩
          have HX8 := hid hX8.assoc'.fst
          clear hX8 HX7 HT HO HAJ
          go_wp2_with fail
          try rw [h4]
          try rw [hji]
          clear hji hjt hkz hkz1 hkz2
          go_loopw [24] (fun v wq => ∃ t : Nat, v = .int .i64 t ∧ t ≤ k ∧ Hid (Has w [] (((heapA hb W3 K2 []).star (trA tb hb m4 ys)).star (midA 3 (.slice (some ⟨lb, lo, none⟩) k lc) (aL A k))) wq)) (fun v _ => k - (intOf v).toNat)
          case atStart => exact ⟨0, rfl, by omega, HX8.out⟩
          case round =>
            obtain ⟨t, rfl, ht, HX⟩ := hrel
            clear HX8
            by_cases hlt : t < k
            · have hd3 : decide ((t : Int) < (k : Int)) = true := decide_eq_true (by omega)
              obtain ⟨lb', lo', e', hcl⟩ := row_cells' HB.out HX.out.snd (by omega)
              cases e'
              have ct := hcl _ (Keep.refl _ _) t hlt
              have hbt := HB.out t hlt
              obtain ⟨bv, hbv⟩ : ∃ bv, decide (j ≤ t) = bv := ⟨_, rfl⟩
              have hbv2 : decide ((j : Int) ≤ (t : Int)) = bv := by rw [← hbv]; exact decide_eq_decide.2 (by omega)
              have HBT := (show Hid (onM ys (A t : Int) = bv) from (HON.out.2 t hlt).trans hbv)
              clear hcl
              go_wp2_with fail
              refine (tmarked (A t : Int) _ HX.out.fst.snd).mono ?_
              rw [HBT.out]
              rintro e w9 ⟨rfl, hK9⟩
              have HX9 := hid (HX.out.keep0 hK9)
              clear hK9 HX ct
              cases bv
              all_goals (go_wp2_with fail)
              all_goals go_roundw
              all_goals first
                | exact ⟨t + 1, by go_num, by omega, HX9⟩
                | (simp [intOf]; omega)
            · have hd3 : decide ((t : Int) < (k : Int)) = false := decide_eq_false (by omega)
              have hjk1 : j ≤ k := by omega
              obtain ⟨kj, hkj⟩ : ∃ kj : Nat, (k : Int) - (j : Int) = kj := ⟨k - j, by omega⟩
              have hkq : (kj : Int) + 1 = (q : Int) := by have := HQ.out.2; omega
              have hq41 : q ≤ 42 := by have := HQ.out.2; omega
              go_wp2_with fail
              refine (tnew_nil 1 _).mono ?_
              rintro e w9 ⟨rfl, hK9⟩
              have HX9 := hid (HX.out.keep0 hK9)
              clear hK9 HX
              go_wp2_with fail
              refine (tnew_no 0 _ HX9.out.fst.fst (by omega)).mono ?_
              rintro e w10 ⟨rfl, hK10⟩
              have HX10 := hid ((HX9.out.keep0 hK10).keep0 (Keep.alloc [] w10 (.cells #[.int .i64 64] 3)))
              clear hK10 HX9
              go_wp2_with fail
              refine (tmark_nil _ 1 1 _).mono ?_
              rintro e w11 ⟨rfl, hK11⟩
              have HX11 := hid (HX10.out.keep0 hK11)
              clear hK11 HX10
              go_wp2_with fail
              refine (tmarked (r : Int) _ HX11.out.fst.snd).mono ?_
              rw [HON.out.1]
              rintro e w12 ⟨rfl, hK12⟩
              have HX12 := hid (HX11.out.keep0 hK12)
              clear hK12 HX11
              go_wp2_with fail
              refine (tall _ HX12.out.fst.snd).mono ?_
              rintro e w13 ⟨v13, m13, rfl, hown13, hK13⟩
              obtain ⟨la13, lc13, rfl, rfl, _, _, _⟩ := owned_form hown13 (marksL_in ys HYL.out)
              rw [HQ.out.1]
              have HX13 := hid (HX12.out.keep0 hK13)
              clear hK13 HX12 hown13
              go_wp2_with fail
              refine (tdeep _ HX13.out.fst.snd).mono ?_
              rintro e w14 ⟨d, rfl, hd14, hK14⟩
              have HX14 := hid (HX13.out.keep0 hK14)
              have hdd : decide ((d : Int) ≤ (m4 : Int)) = true := decide_eq_true (by omega)
              clear hK14 HX13
              have hdn : d ≤ m4 := hd14
              have hdm : d ≤ 4 := by omega
              go_wp2_with (first | (go_at_call 9; refine (err_any _ _).mono ?_; rintro e w' ⟨rfl, rfl⟩))
              refine (tmarked_nil 64 _).mono ?_
              rintro e w15 ⟨rfl, hK15⟩
              have HX15 := hid (HX14.out.keep0 hK15)
              clear hK15 HX14
              go_wp2_with fail
              refine (tall_nil _).mono ?_
              rintro e w16 ⟨rfl, hK16⟩
              have HX16 := hid (HX15.out.keep0 hK16)
              clear hK16 HX15
              go_wp2_with fail
              refine (tdeep_nil _).mono ?_
              rintro e w17 ⟨rfl, hK17⟩
              have HX17 := hid (HX16.out.keep0 hK17)
              clear hK17 HX16
              go_wp2_with (first | (go_at_call 17; refine (awake17_any _).mono ?_; rintro e w18 ⟨rfl, hK18⟩))
              go_ret
              exact ⟨rfl, HX17.out.K.trans hK18⟩
theorem walk (a0 a1 a2 a3 : Int) (w0 : (Lit.int .u8 a0).wf = true) (w1 : (Lit.int .u8 a1).wf = true) (w2 : (Lit.int .u8 a2).wf = true) (w3 : (Lit.int .u8 a3).wf = true) (w : World) :
    Calls Try.prog 3 #[.int .u8 a0, .int .u8 a1, .int .u8 a2, .int .u8 a3] w fun e w' => e = .returned (.bool true) ∧ Keep [] w w' := by
  have h0 := bounds_u8 w0
  have h1 := bounds_u8 w1
  have h2 := bounds_u8 w2
  have h3 := bounds_u8 w3
  obtain ⟨nn, rfl⟩ : ∃ n : Nat, a0 = n := ⟨a0.toNat, by omega⟩
  obtain ⟨ff, rfl⟩ : ∃ n : Nat, a1 = n := ⟨a1.toNat, by omega⟩
  obtain ⟨wd, rfl⟩ : ∃ n : Nat, a2 = n := ⟨a2.toNat, by omega⟩
  obtain ⟨ss, rfl⟩ : ∃ n : Nat, a3 = n := ⟨a3.toNat, by omega⟩
  obtain ⟨t40, ht40⟩ : ∃ r : Nat, (nn : Int) % 40 = r := ⟨((nn : Int) % 40).toNat, by omega⟩
  obtain ⟨t30, ht30⟩ : ∃ r : Nat, (wd : Int) % 30 = r := ⟨((wd : Int) % 30).toNat, by omega⟩
  obtain ⟨t4, ht4⟩ : ∃ r : Nat, (ss : Int) % 4 = r := ⟨((ss : Int) % 4).toNat, by omega⟩
  exact rows_any nn ff wd ss (2 + t40) t40 (1 + t30) t30 (1 + t4) t4 _ w (by omega) (by omega) (by omega) (by omega) ht40 (by omega) ht30 (by omega) ht4 (by omega) rfl (by omega) (by omega) (by omega) (by omega) (by omega) (by omega)

end Go.Proofs.Ytgpidokklhjfdaa.markRows
