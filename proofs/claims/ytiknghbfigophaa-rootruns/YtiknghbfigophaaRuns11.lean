/-
  RootRuns: each root is what it was set to last, or 0; what may not be set is not.
-/
import Derived.Test.YtiknghbfigophaaAwake11
import Derived.Test.YtiknghbfigophaaPRow
import Derived.Deep.CutRange
import Derived.Deep.RegionLaw
namespace Go.Proofs.Ytiknghbfigophaa.rootRuns
open Go.RowKit

theorem Try.infoIntR : (Try.prog.info? 3).map (fun i => (i.zero, i.size, i.bytes)) = some (some (.int .i64 0), 1, 8) := by kernel_rfl

/-- The program's roots beside the law's own list. -/
structure Both (w : World) (b g : Nat) (ys xs : List Int) : Prop where
  root : IsRoot w b ys
  want : Row w 3 g xs
  ne : b ≠ g
theorem Both.keep {S : List Nat} {w w' : World} {b g : Nat} {ys xs : List Int} (h : Both w b g ys xs) (k : Keep S w w') (hb : b ∉ S) (hg : g ∉ S) : Both w' b g ys xs := ⟨h.root.keep k hb, h.want.keep k hg, h.ne⟩

theorem Keep.trans6 {S : List Nat} {g : Nat} {w w1 w2 : World} (h : Keep S w w1) (k : Keep [g] w1 w2) (hg : w.heap.size ≤ g) : Keep S w w2 :=
  (((h.mono (T := g :: S) (fun _ hx => List.mem_cons_of_mem _ hx)).trans (k.mono (T := g :: S) (by simp))).drop (fun x hx hlt => by
    rcases List.mem_cons.1 hx with e | e
    · omega
    · exact e))
theorem placeT_ex (xs : List Int) (x y : Int) : ∃ E ys, PlaceT xs x y E ys := by
  by_cases h : 0 ≤ x ∧ x < 16 ∧ 0 ≤ y
  · obtain ⟨q, rfl⟩ := Int.eq_ofNat_of_zero_le h.1
    exact ⟨0, _, .inr ⟨q, by omega, rfl, h.2.2, rfl, rfl⟩⟩
  · exact ⟨1, _, .inl ⟨h, rfl, rfl⟩⟩

set_option maxRecDepth 100000 in
set_option maxHeartbeats 8000000 in
theorem walk (ao : Option Addr) (n c : Nat) (A : List Int) (bo : Option Addr) (m d : Nat) (B : List Int) (_ : n ≤ 9223372036854775807) (_ : m ≤ 9223372036854775807) (w : World) (u0 : ListAt w ao .i64 n A) (u1 : ListAt w bo .i64 m B) :
    Calls Try.prog 3 #[.slice ao n c, .slice bo m d] w fun e w' => e = .returned (.bool true) ∧ Keep [] w w' := by
  have HA := (show Hid (ListAt w ao .i64 n A) from u0)
  have HB := (show Hid (ListAt w bo .i64 m B) from u1)
  clear u0 u1
  have hmk : ∀ w, (Instr.makeSlice 22 (.int .i64 16) (.int .i64 16)).run Try.prog w = .ok (.slice (some ⟨w.heap.size, 0, none⟩) 16 16) (w.alloc (.cells (madeCells #[.int .i64 0] 16) 3)) := by
    intro w
    exact run_make_row' (P := Try.prog) 22 3 (.int .i64 0) 8 Try.underlying22 Try.infoIntR rfl .i64 .i64 16 (by omega) (by omega) w
  go_enter Try.func3, Try.ntmps3
  go_wp2_with fail
  refine (onew_any _).mono ?_
  rintro e w1 ⟨b, rfl, hI1, hK1, hb⟩
  go_wp2_with fail
  have hR := Row.made w1 3 16
  have hI2 := hI1.keep (Keep.alloc [] w1 (.cells (madeCells #[.int .i64 0] 16) 3)) (by simp)
  have hK2 := hK1.trans (Keep.alloc [] w1 (.cells (madeCells #[.int .i64 0] 16) 3))
  have hlt1 := hI1.lt
  generalize w1.alloc (.cells (madeCells #[.int .i64 0] 16) 3) = w2 at *
  obtain ⟨g, hg⟩ : ∃ g, w1.heap.size = g := ⟨_, rfl⟩
  rw [hg] at hR hlt1
  have hgw : w.heap.size ≤ g := by have := hK1.size; omega
  have HB2 := (show Hid (Both w2 b g (zeros 16) (zeros 16)) from ⟨hI2, hR, by omega⟩)
  have HK2 := (show Hid (Keep [b, g] w w2) from hK2.mono (by simp))
  rw [hg]
  clear hR hI2 hK2 hK1 hI1 hlt1 hg hmk
  go_loopw [7] (fun i wr => ∃ (k : Nat) (xs : List Int), i = .int .i64 k ∧ k ≤ 60 ∧ Hid (Both wr b g xs xs) ∧ Hid (Keep [b, g] w wr)) (fun i _ => 60 - (intOf i).toNat)
  case atStart => exact ⟨0, _, rfl, by omega, HB2, HK2⟩
  case round =>
    obtain ⟨k, xs, rfl, hk, HO, HK⟩ := hrel
    obtain ⟨w3, rfl⟩ : ∃ w3, w3 = wr := ⟨_, rfl⟩
    clear HB2 HK2
    by_cases hlt : k < n ∧ k < m ∧ k < 60
    · obtain ⟨hkn, hkm, hk60⟩ := hlt
      have d1 : decide ((k : Int) < (n : Int)) = true := by rw [decide_eq_true_iff]; omega
      have d2 : decide ((k : Int) < (m : Int)) = true := by rw [decide_eq_true_iff]; omega
      have d3 : decide ((k : Int) < 60) = true := by rw [decide_eq_true_iff]; omega
      have d1' : decide (k < n) = true := by rw [decide_eq_true_iff]; omega
      have d2' : decide (k < m) = true := by rw [decide_eq_true_iff]; omega
      obtain ⟨ab, aof, rfl, hab, hca⟩ := HA.out.cells (by omega)
      obtain ⟨bb, bof, rfl, hbb, hcb⟩ := HB.out.cells (by omega)
      have hca0 := hca k hkn
      have hcb0 := hcb k hkm
      have hbx := bounds_i64 (HA.out.wf k hkn)
      have hby := bounds_i64 (HB.out.wf k hkm)
      clear hca hcb
      generalize A[k]?.getD 0 = x at *
      generalize B[k]?.getD 0 = y at *
      have HCA := (show Hid (∀ w', Keep [b, g] w w' → w'.cell? ⟨ab, aof + k, none⟩ = some (.int .i64 x) ∧ w'.cell? ⟨bb, bof + k, none⟩ = some (.int .i64 y)) from fun w' K => ⟨(K.cell hab (by simp; omega) _).trans hca0, (K.cell hbb (by simp; omega) _).trans hcb0⟩)
      clear hca0 hcb0 hab hbb
      obtain ⟨hcx, hcy⟩ := HCA.out w3 HK.out
      have HOd := (show Hid (Both w3.drew b g xs xs) from HO.out.keep (Keep.drew [] w3) (by simp) (by simp))
      have HKd := (show Hid (Keep [b, g] w w3.drew) from HK.out.trans (Keep.drew _ w3))
      obtain ⟨E, ys, hT⟩ := placeT_ex xs x y
      have HT := (show Hid (PlaceT xs x y E ys) from hT)
      clear hT
      go_upto_region 8 with fail
      go_cut [8] from 37 to 122 (fun v wz => v = .int .i64 E ∧ Hid (Both wz b g ys xs) ∧ Hid (Keep [b, g] w wz))
      case first =>
        go_wp2_with fail
        go_region_law (first
          | (go_simp; refine (oplace b x y E xs _ _ HOd.out.root (by omega) HT.out).mono ?_; rintro e w4 ⟨rfl, hI4, hK4⟩)
          | (go_simp; refine (err_any _ _).mono ?_; rintro e w' ⟨rfl, rfl⟩))
        all_goals (go_wp2_with fail)
        all_goals go_meet
        all_goals exact ⟨rfl, (show Hid _ from ⟨hI4, HOd.out.want.keep hK4 (by have := HOd.out.ne; simp; omega), HOd.out.ne⟩), (show Hid _ from HKd.out.trans (hK4.mono (by simp)))⟩
      case rest =>
        obtain ⟨rfl, HO4, HK4⟩ := hcut
        obtain ⟨w4, rfl⟩ : ∃ w4, w4 = wc := ⟨_, rfl⟩
        clear HO HK HOd HKd hcx hcy
        obtain ⟨hcx, hcy⟩ := HCA.out w4 HK4.out
        by_cases hok : 0 ≤ x ∧ x < 16 ∧ 0 ≤ y
        · obtain ⟨q, rfl⟩ := Int.eq_ofNat_of_zero_le hok.1
          have hq : q < 16 := by omega
          have HE := (show Hid (E = 0 ∧ ys = xs.set q y) from by
            rcases HT.out with ⟨h, _⟩ | ⟨k', h1, h2, h3, h4, h5⟩
            · exact absurd hok h
            · obtain rfl : q = k' := by omega
              exact ⟨h4, h5⟩)
          have hE := HE.out.1
          subst hE
          have e1 : decide ((q : Int) < 0) = false := by rw [decide_eq_false_iff_not]; omega
          have e2 : decide ((16 : Int) ≤ q) = false := by rw [decide_eq_false_iff_not]; omega
          have e3 : decide (y < 0) = false := by rw [decide_eq_false_iff_not]; omega
          have hq0 : (0 : Int) ≤ q := by omega
          have hq1 : (q : Int) < 16 := by omega
          go_upto_region 14 with fail
          have hcw := HO4.out.want.cell (i := q) (by have := HO4.out.root.len; rw [HE.out.2, List.length_set] at this; omega)
          have hfw := HO4.out.want.free q
          go_cut [] from 71 to 80 (fun wz => Hid (Both wz b g ys ys) ∧ Hid (Keep [b, g] w wz))
          case first =>
            have HP := (show Hid (Both (w4.setCell ⟨g, q, none⟩ (.int .i64 y)) b g ys ys ∧ Keep [b, g] w (w4.setCell ⟨g, q, none⟩ (.int .i64 y))) from
              ⟨⟨HO4.out.root.keep (Keep.setCell (S := [g]) w4 (a := ⟨g, q, none⟩) _ (by simp)) (by have := HO4.out.ne; simp; omega), by rw [HE.out.2]; exact HO4.out.want.put q y, HO4.out.ne⟩, HK4.out.trans (Keep.setCell _ _ (by simp))⟩)
            go_wp2_with fail
            go_region
            all_goals (go_wp2_with fail)
            all_goals go_meet
            all_goals exact ⟨(show Hid _ from HP.out.1.keep (Keep.drew [] _) (by simp) (by simp)), (show Hid _ from HP.out.2.trans (Keep.drew _ _))⟩
          case rest =>
            obtain ⟨HO5, HK5⟩ := hcut
            obtain ⟨w5, rfl⟩ : ∃ w5, w5 = wc := ⟨_, rfl⟩
            clear HO4 HK4 hcx hcy hcw hfw
            obtain ⟨hcx, hcy⟩ := HCA.out w5 HK5.out
            have hcw := HO5.out.want.cell (i := q) (by rw [HO5.out.root.len]; exact hq)
            have T2 := (show Hid (RootT ys q (ys[q]?.getD 0) 0) from .inr ⟨q, hq, rfl, rfl, rfl⟩)
            obtain ⟨z, hz⟩ : ∃ z, ys[q]?.getD 0 = z := ⟨_, rfl⟩
            rw [hz] at hcw T2
            clear hz
            go_wp2_with (first
              | (go_at_call 10; refine (oroot b q z 0 ys _ HO5.out.root T2.out).mono ?_; rintro e w' ⟨rfl, rfl⟩)
              | (go_at_call 8; refine (err_any _ _).mono ?_; rintro e w' ⟨rfl, rfl⟩))
            go_roundw
            case rel => exact ⟨k + 1, ys, by go_num, by omega, HO5, HK5⟩
            case measure => simp [intOf]; omega
        · have HE := (show Hid (E = 1 ∧ ys = xs) from by
            rcases HT.out with ⟨h, h1, h2⟩ | ⟨k', h1, h2, h3, h4, h5⟩
            · exact ⟨h1, h2⟩
            · exact absurd ⟨by omega, by omega, h3⟩ hok)
          obtain ⟨rfl, rfl⟩ := HE.out
          clear HT HE
          by_cases hx0 : x < 0
          · have e1 : decide (x < 0) = true := by rw [decide_eq_true_iff]; omega
            have T2 := (show Hid (RootT ys x 0 1) from .inl ⟨by omega, rfl, rfl⟩)
            go_wp2_with (first
              | (go_at_call 10; refine (oroot b x 0 1 ys _ HO4.out.root T2.out).mono ?_; rintro e w' ⟨rfl, rfl⟩)
              | (go_at_call 8; refine (err_any _ _).mono ?_; rintro e w' ⟨rfl, rfl⟩))
            go_roundw
            case rel => exact ⟨k + 1, ys, by go_num, by omega, HO4, HK4⟩
            case measure => simp [intOf]; omega
          · have e1 : decide (x < 0) = false := by rw [decide_eq_false_iff_not]; omega
            by_cases hx1 : 16 ≤ x
            · have e2 : decide ((16 : Int) ≤ x) = true := by rw [decide_eq_true_iff]; omega
              have T2 := (show Hid (RootT ys x 0 1) from .inl ⟨by omega, rfl, rfl⟩)
              go_wp2_with (first
                | (go_at_call 10; refine (oroot b x 0 1 ys _ HO4.out.root T2.out).mono ?_; rintro e w' ⟨rfl, rfl⟩)
                | (go_at_call 8; refine (err_any _ _).mono ?_; rintro e w' ⟨rfl, rfl⟩))
              go_roundw
              case rel => exact ⟨k + 1, ys, by go_num, by omega, HO4, HK4⟩
              case measure => simp [intOf]; omega
            · have e2 : decide ((16 : Int) ≤ x) = false := by rw [decide_eq_false_iff_not]; omega
              have e3 : decide (y < 0) = true := by rw [decide_eq_true_iff]; omega
              obtain ⟨q, rfl⟩ := Int.eq_ofNat_of_zero_le (show 0 ≤ x by omega)
              have hq : q < 16 := by omega
              have hq0 : (0 : Int) ≤ q := by omega
              have hq1 : (q : Int) < 16 := by omega
              have hcw := HO4.out.want.cell (i := q) (by rw [HO4.out.root.len]; exact hq)
              have T2 := (show Hid (RootT ys q (ys[q]?.getD 0) 0) from .inr ⟨q, hq, rfl, rfl, rfl⟩)
              obtain ⟨z, hz⟩ : ∃ z, ys[q]?.getD 0 = z := ⟨_, rfl⟩
              rw [hz] at hcw T2
              clear hz
              go_wp2_with (first
                | (go_at_call 10; refine (oroot b q z 0 ys _ HO4.out.root T2.out).mono ?_; rintro e w' ⟨rfl, rfl⟩)
                | (go_at_call 8; refine (err_any _ _).mono ?_; rintro e w' ⟨rfl, rfl⟩))
              go_roundw
              case rel => exact ⟨k + 1, ys, by go_num, by omega, HO4, HK4⟩
              case measure => simp [intOf]; omega
    · go_upto_region 6 with fail
      go_cut [34] from 21 to 122 (fun v wz => v = .bool false ∧ w3 = wz)
      case first =>
        by_cases q1 : k < n
        · have d1 : decide ((k : Int) < (n : Int)) = true := by rw [decide_eq_true_iff]; omega
          by_cases q2 : k < m
          · have d2 : decide ((k : Int) < (m : Int)) = true := by rw [decide_eq_true_iff]; omega
            have d3 : decide ((k : Int) < 60) = false := by rw [decide_eq_false_iff_not]; omega
            clear hlt
            go_wp2_with fail
            go_meet
            exact ⟨rfl, rfl⟩
          · have d2 : decide ((k : Int) < (m : Int)) = false := by rw [decide_eq_false_iff_not]; omega
            clear hlt
            go_wp2_with fail
            go_meet
            exact ⟨rfl, rfl⟩
        · have d1 : decide ((k : Int) < (n : Int)) = false := by rw [decide_eq_false_iff_not]; omega
          clear hlt
          go_wp2_with fail
          go_meet
          exact ⟨rfl, rfl⟩
      case rest =>
        obtain ⟨rfl, rfl⟩ := hcut
        clear hlt HA HB
        go_wp2_with fail
        refine (oroots_l b xs _ HO.out.root).mono ?_
        rintro e w4 ⟨va, vc, rfl, hN4, hK4⟩
        have HO4 := (show Hid (Both w4 b g xs xs) from HO.out.keep hK4 (by simp) (by simp))
        have HK4 := (show Hid (Keep [b, g] w w4) from HK.out.trans (hK4.mono (by simp)))
        have hs3 : b < w3.heap.size ∧ g < w3.heap.size := ⟨HO.out.root.lt, HO.out.want.lt⟩
        have HIW := (show Hid (∀ w', Both w' b g xs xs → IntsAt w' (some ⟨g, 0, none⟩) xs ∧ xs.length = 16) from fun w' h => ⟨row_ints h.want (fun i => by have := h.root.bd i; omega), h.root.len⟩)
        obtain ⟨gl, cap, hv, hl16, hgl, hP⟩ := own_prow hN4.own (by omega)
        cases hv
        have hlx := (HIW.out w4 HO4.out).2
        go_wp2_with fail
        refine (same_eq _ _ 16 _ 16 xs _ hN4.at' (HIW.out _ HO4.out).1 hlx (by omega)).mono ?_
        rintro e w5 ⟨rfl, hK5⟩
        have HP5 := (show Hid (PRow w5 3 gl xs) from hP.keep hK5 (by simp))
        have HO5 := (show Hid (Both w5 b g xs xs) from HO4.out.keep hK5 (by simp) (by simp))
        have HK5 := (show Hid (Keep [b, g] w w5) from HK4.out.trans (hK5.mono (by simp)))
        have hglb : gl ≠ b ∧ gl ≠ g := ⟨by omega, by omega⟩
        have hglw : w.heap.size ≤ gl := by have := HK.out.size; omega
        clear HO4 HK4 hP hN4 hK5 hK4 hs3 hgl HK HO hl16
        go_wp2_with fail
        go_loopw [13] (fun i wr => ∃ (j : Nat) (L : List Int), i = .int .i64 j ∧ j ≤ 16 ∧ L.length = 16 ∧ Hid (PRow wr 3 gl L) ∧ Hid (Keep [gl] w5 wr)) (fun i _ => 16 - (intOf i).toNat)
        case atStart => exact ⟨0, xs, rfl, by omega, hlx, HP5, Keep.refl _ _⟩
        case round =>
          obtain ⟨j, L, rfl, hj, hL, HP, HK6⟩ := hrel
          obtain ⟨w6, rfl⟩ : ∃ w6, w6 = wr := ⟨_, rfl⟩
          by_cases hj16 : j < 16
          · have hc := HP.out.cell (i := j) (by omega)
            have hf := HP.out.free j
            have HP7 := (show Hid (PRow (w6.setCell ⟨gl, j, none⟩ (.int .i64 99)) 3 gl (L.set j 99)) from HP.out.put j 99)
            have HK7 := (show Hid (Keep [gl] w5 (w6.setCell ⟨gl, j, none⟩ (.int .i64 99))) from HK6.out.trans (Keep.setCell _ _ (by simp)))
            go_wp2_with fail
            go_roundw
            case rel => exact ⟨j + 1, _, by go_num, by omega, by rw [List.length_set]; exact hL, HP7, HK7⟩
            case measure => simp [intOf]; omega
          · obtain rfl : j = 16 := by omega
            have HO6 := (show Hid (Both w6 b g xs xs) from HO5.out.keep HK6.out (by simp; omega) (by simp; omega))
            have HKw := (show Hid (Keep [b, g] w w6) from (Keep.trans6 HK5.out HK6.out hglw))
            clear HO5 HK5 HP HK6 HP5 hj16
            go_wp2_with fail
            refine (oroot_nil 0 _).mono ?_
            rintro e w' ⟨rfl, rfl⟩
            go_wp2_with fail
            refine (oroots_l b xs _ HO6.out.root).mono ?_
            rintro e w7 ⟨va, vd, rfl, hN7, hK7⟩
            have HO7 := (show Hid (Both w7 b g xs xs) from HO6.out.keep hK7 (by simp) (by simp))
            go_wp2_with fail
            refine (same_eq _ _ 16 _ 16 xs _ hN7.at' (HIW.out _ HO7.out).1 hlx (by omega)).mono ?_
            rintro e w8 ⟨rfl, hK8⟩
            have HKw8 := (show Hid (Keep [b, g] w w8) from (HKw.out.trans (hK7.mono (by simp))).trans (hK8.mono (by simp)))
            clear HKw hK7 hK8 hN7 HO7 HO6
            go_wp2_with (first
              | (go_at_call 8; refine (err_any _ _).mono ?_; rintro e w' ⟨rfl, rfl⟩)
              | (go_at_call 9; refine (oplace_nil 0 1 _).mono ?_; rintro e w' ⟨rfl, rfl⟩)
              | (go_at_call 11; refine (oroots_nil _).mono ?_; rintro e w' ⟨rfl, rfl⟩)
              | (go_at_call 13; refine (awake11_any _).mono ?_; rintro e w9 ⟨rfl, hK9⟩))
            go_ret
            exact ⟨rfl, (HKw8.out.trans (hK9.mono (by simp))).drop (by simp; omega)⟩
end Go.Proofs.Ytiknghbfigophaa.rootRuns
