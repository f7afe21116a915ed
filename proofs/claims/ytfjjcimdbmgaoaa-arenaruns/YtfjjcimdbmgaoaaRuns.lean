/-
  ArenaRuns answers true, whatever it is given.
-/
import Derived.Test.YtfjjcimdbmgaoaaAwake1
import Derived.Test.YtfjjcimdbmgaoaaAsks
namespace Go.Proofs.Ytfjjcimdbmgaoaa
open Go.RowKit

set_option maxRecDepth 100000 in
set_option maxHeartbeats 1000000 in
theorem runs_no (p : Int) (ao : Option Addr) (n c : Nat) (w : World) (h : ¬ (1 ≤ p ∧ p ≤ 256)) :
    Calls Try.prog 3 #[.int .i64 p, .slice ao n c] w fun e w' => e = .returned (.bool true) ∧ Keep [] w w' := by
  go_enter Try.func3, Try.ntmps3
  go_wp2_with (first | (go_at_call 7; refine (new_no _ _ h).mono ?_; rintro e w' ⟨rfl, rfl⟩) | (go_at_call 8; refine (err_any _ _).mono ?_; rintro e w' ⟨rfl, rfl⟩) | (go_at_call 9; refine (awake_any _).mono ?_; rintro e w8 ⟨rfl, hK8⟩))
  all_goals (go_ret; exact ⟨rfl, hK8⟩)

set_option maxRecDepth 100000 in
set_option maxHeartbeats 1000000 in
theorem runs_long (p : Nat) (ao : Option Addr) (n c : Nat) (w : World) (h1 : 1 ≤ p) (h2 : p ≤ 256) (hn : 60 < n) (hn2 : n ≤ 9223372036854775807) :
    Calls Try.prog 3 #[.int .i64 p, .slice ao n c] w fun e w' => e = .returned (.bool true) ∧ Keep [] w w' := by
  go_enter Try.func3, Try.ntmps3
  go_wp2_with (first | (go_at_call 7; refine (new_ok _ _ h1 h2).mono ?_; rintro e w1 ⟨b1, g1, rfl, hA, hK, hb1, hg1⟩) | (go_at_call 8; refine (err_any _ _).mono ?_; rintro e w' ⟨rfl, rfl⟩) | (go_at_call 9; refine (awake_any _).mono ?_; rintro e w8 ⟨rfl, hK8⟩))
  go_ret
  exact ⟨rfl, hK.trans hK8⟩

/-- Of xs the kk words from k on are 0. -/
def Zed (xs zs : List Int) (k kk : Nat) : Prop := zs.length = xs.length ∧ ∀ t : Nat, zs[t]?.getD 0 = if k ≤ t ∧ t < k + kk then 0 else xs[t]?.getD 0
theorem Zed.start (xs : List Int) (k : Nat) : Zed xs xs k 0 := ⟨rfl, fun t => by rw [if_neg (by omega)]⟩
theorem Zed.step {xs zs : List Int} {k kk : Nat} (h : Zed xs zs k kk) (hk : k + kk < xs.length) : Zed xs (zs.set (k + kk) 0) k (kk + 1) := by
  refine ⟨by simpa using h.1, fun t => ?_⟩
  by_cases e : t = k + kk
  · subst e; rw [set_get_same _ _ _ (by have := h.1; omega), if_pos (by omega)]
  · rw [set_get_other _ _ _ _ (by omega), h.2 t]
    by_cases c : k ≤ t ∧ t < k + kk
    · rw [if_pos c, if_pos (by omega)]
    · rw [if_neg c, if_neg (by omega)]

set_option maxRecDepth 100000 in
set_option maxHeartbeats 8000000 in
theorem runs_any (p : Nat) (ao : Option Addr) (n c : Nat) (A : Nat → Nat → Int) (w : World) (h1 : 1 ≤ p) (h2 : p ≤ 256) (hn : n ≤ 60) (hl : Asks w ao 3 n A) :
    Calls Try.prog 3 #[.int .i64 p, .slice ao n c] w fun e w' => e = .returned (.bool true) ∧ Keep [] w w' := by
  have hmk : ∀ w, (Instr.makeSlice 29 (.int .i64 ((p : Int) * 64)) (.int .i64 ((p : Int) * 64))).run Try.prog w = .ok (.slice (some ⟨w.heap.size, 0, none⟩) (p * 64) (p * 64)) (w.alloc (.cells (madeCells #[.int .i64 0] (p * 64)) 3)) := by
    intro w
    have := run_make_row' (P := Try.prog) 29 3 (.int .i64 0) 8 Try.underlying29 Try.infoInt rfl .i64 .i64 (p * 64) (by omega) (by omega) w
    rw [show ((p * 64 : Nat) : Int) = (p : Int) * 64 from by omega] at this
    exact this
  have hp1 : decide ((p : Int) < 1) = false := by rw [decide_eq_false_iff_not]; omega
  have hp2 : decide (256 < (p : Int)) = false := by rw [decide_eq_false_iff_not]; omega
  have hn6 : decide (60 < (n : Int)) = false := by rw [decide_eq_false_iff_not]; omega
  go_enter Try.func3, Try.ntmps3
  go_wp2_with (first | (go_at_call 7; refine (new_ok _ _ h1 h2).mono ?_; rintro e w1 ⟨b1, g1, rfl, hA, hK, hb1, hg1⟩) | (go_at_call 8; refine (err_any _ _).mono ?_; rintro e w' ⟨rfl, rfl⟩))
  clear hmk
  have hR := Row.made w1 3 (p * 64)
  have hA1 := hA.keep (Keep.alloc [] w1 (.cells (madeCells #[.int .i64 0] (p * 64)) 3)) (by simp) (by simp)
  have hK1 : Keep [] w (w1.alloc (.cells (madeCells #[.int .i64 0] (p * 64)) 3)) := hK.trans (Keep.alloc [] _ _)
  have hgw : w1.heap.size < (w1.alloc (.cells (madeCells #[.int .i64 0] (p * 64)) 3)).heap.size := by simp
  have l1 := hA.lt
  have hsz := hK.size
  clear hA hK
  generalize w1.alloc (.cells (madeCells #[.int .i64 0] (p * 64)) 3) = w2 at *
  generalize w1.heap.size = gw at *
  go_loopw [9] (fun i wr => ∃ (j : Nat) (xs : List Int), j ≤ n ∧ i = .int .i64 j ∧ IsArena wr b1 g1 xs ∧ Row wr 3 gw xs ∧ Hid (xs.length = p * 64) ∧ Keep [g1, gw] w wr) (fun i _ => n - (intOf i).toNat)
  case atStart => exact ⟨0, _, by omega, rfl, hA1, hR, zeros_length _, hK1.mono (by simp)⟩
  case round =>
    obtain ⟨j, xs, hj, rfl, hA2, hR2, HL, hK2⟩ := hrel
    clear hA1 hR hK1
    by_cases hlt : j < n
    · obtain ⟨b, off, rfl, hb, hc⟩ := hl.cells (by omega)
      have hbS : b ∉ [g1, gw] := by simp; omega
      have c0 := (hK2.cell hb hbS (off + j * 3)).trans (hc j 0 hlt (by omega))
      have c1 := (hK2.cell hb hbS (off + j * 3 + 1)).trans (hc j 1 hlt (by omega))
      have c2 := (hK2.cell hb hbS (off + j * 3 + 2)).trans (hc j 2 hlt (by omega))
      have v1 := hl.low j 1
      have v2 := hl.high j 1
      have v3 := hl.low j 2
      have v4 := hl.high j 2
      clear hc hl
      generalize A j 0 = d at *
      generalize A j 1 = i at *
      generalize A j 2 = x at *
      have hgb : gw ≠ g1 := by omega
      have hend : ∀ ys w3, ys.length = p * 64 → IsArena w3 b1 g1 ys → Row w3 3 gw ys → Keep [g1, gw] wr w3 → IsArena w3 b1 g1 ys ∧ Row w3 3 gw ys ∧ Hid (ys.length = p * 64) ∧ Keep [g1, gw] w w3 :=
        fun ys w3 e1 e2 e3 e4 => ⟨e2, e3, e1, hK2.trans e4⟩
      have HE := (show Hid _ from hend)
      clear hend hK2 hbS hb
      go_wp2_with fail
      go_quiet (fail)
      have hq : IsArena (wr.drewN nq) b1 g1 xs ∧ Row (wr.drewN nq) 3 gw xs ∧ Keep [g1, gw] wr (wr.drewN nq) := ⟨hA2.keep (Keep.drewN [] _ _) (by simp) (by simp), hR2, Keep.drewN _ _ _⟩
      obtain ⟨hA3, hR3, hK3⟩ := hq
      rcases (show ((d == 0) = true ∨ (d == 0) = false ∧ (d == 1) = true) ∨ (d == 0) = false ∧ (d == 1) = false ∧ (d == 2) = true ∨ (d == 0) = false ∧ (d == 1) = false ∧ (d == 2) = false from by
          simp only [beq_iff_eq, beq_eq_false_iff_ne]; omega) with hd | hd | hd
      · by_cases hin : 0 ≤ i ∧ i < (p : Int) * 64
        · obtain ⟨hi0, hi1⟩ := hin
          obtain ⟨k, rfl⟩ := Int.eq_ofNat_of_zero_le hi0
          rcases hd with hd | ⟨hd, hd'⟩
          all_goals
            go_wp2_with (first | (go_at_call 10; refine (store_yes b1 g1 k _ xs _ hA3 (by rw [HL.out]; omega)).mono ?_; rintro e w4 ⟨rfl, hA4, hK4⟩; have hR4 := hR3.keep hK4 (by simpa using hgb); have y4 := hR4.cell (i := k) (by rw [HL.out]; omega); have f4 := hR4.free k) | (go_at_call 8; refine (err_any _ _).mono ?_; rintro e w' ⟨rfl, rfl⟩))
            go_roundw
            case rel => exact ⟨j + 1, xs.set k x, by omega, by go_num, HE.out _ _ (by rw [List.length_set]; exact HL.out) (hA4.keep (Keep.setCell (S := [gw]) _ _ (by simp)) (by simp; omega) (by simp; omega)) (hR4.put k x) ((hK3.trans (hK4.mono (by simp))).trans (Keep.setCell _ _ (by simp)))⟩
            case measure => simp [intOf]; omega
        · have hin' : i < 0 ∨ (p : Int) * 64 ≤ i := by omega
          rcases hin' with hi | hi
          all_goals
            rcases hd with hd | ⟨hd, hd'⟩
            all_goals
              go_wp2_with (first | (go_at_call 10; refine (store_no b1 g1 _ _ xs _ hA3 (by rw [HL.out]; omega)).mono ?_; rintro e w4 ⟨rfl, rfl⟩) | (go_at_call 8; refine (err_any _ _).mono ?_; rintro e w' ⟨rfl, rfl⟩))
              go_roundw
              case rel => exact ⟨j + 1, xs, by omega, by go_num, HE.out _ _ HL.out hA3 hR3 hK3⟩
              case measure => simp [intOf]; omega
      · obtain ⟨hd0, hd1, hd2⟩ := hd
        by_cases hx0 : x < 0
        · go_wp2_with (first | (go_at_call 11; refine (fill_neg b1 _ _ _ hx0).mono ?_; rintro e w4 ⟨rfl, rfl⟩) | (go_at_call 8; refine (err_any _ _).mono ?_; rintro e w' ⟨rfl, rfl⟩))
          all_goals
            go_roundw
            case rel => exact ⟨j + 1, xs, by omega, by go_num, HE.out _ _ HL.out hA3 hR3 hK3⟩
            case measure => simp [intOf]; omega
        · by_cases hi0 : i < 0
          · go_wp2_with (first | (go_at_call 11; refine (fill_at b1 _ _ _ (by omega) hi0).mono ?_; rintro e w4 ⟨rfl, rfl⟩) | (go_at_call 8; refine (err_any _ _).mono ?_; rintro e w' ⟨rfl, rfl⟩))
            go_roundw
            case rel => exact ⟨j + 1, xs, by omega, by go_num, HE.out _ _ HL.out hA3 hR3 hK3⟩
            case measure => simp [intOf]; omega
          · obtain ⟨k, rfl⟩ := Int.eq_ofNat_of_zero_le (show 0 ≤ i by omega)
            obtain ⟨m, rfl⟩ := Int.eq_ofNat_of_zero_le (show 0 ≤ x by omega)
            go_wp2_with fail
            refine (fill_tot b1 g1 k m xs _ hA3).mono ?_
            rintro e w4 ⟨cc, ys, rfl, hA4, hK4, hyl, hcase⟩
            have hR4 := hR3.keep hK4 (by simpa using hgb)
            have HY := (show Hid (ys.length = xs.length) from hyl)
            clear hyl
            rcases hcase with ⟨hfit, rfl, hy⟩ | ⟨hfit, rfl, rfl⟩
            · have HZ := (show Hid (∀ t : Nat, ys[t]?.getD 0 = if k ≤ t ∧ t < k + m then 0 else xs[t]?.getD 0) from hy)
              have hK5 := hK3.trans (hK4.mono (T := [g1, gw]) (by simp))
              clear hy hK4 hA3 hR3 hK3
              have hf : (m : Int) = 0 ∨ 0 < (m : Int) ∧ (k : Int) < (p : Int) * 64 ∧ (m : Int) ≤ (p : Int) * 64 - k := by have := HL.out; omega
              rcases hf with hm0 | ⟨hm0, hk1, hk2⟩
              · obtain rfl : m = 0 := by omega
                go_wp2_with (first | (go_at_call 8; refine (err_any _ _).mono ?_; rintro e w' ⟨rfl, rfl⟩))
                go_loopw [15] (fun q wi => ∃ (kk : Nat) (zs : List Int), kk ≤ 0 ∧ q = .int .i64 kk ∧ IsArena wi b1 g1 ys ∧ Row wi 3 gw zs ∧ Zed xs zs k kk ∧ Keep [g1, gw] wr wi) (fun q _ => 0 - (intOf q).toNat)
                case atStart => exact ⟨0, xs, by omega, rfl, hA4, hR4, Zed.start xs k, hK5⟩
                case round =>
                  obtain ⟨kk, zs, hkk, rfl, hA6, hR6, hz6, hK6⟩ := hrel
                  clear hA4 hR4 hK5
                  by_cases hkm : kk < 0
                  · omega
                  · have hyz : zs = ys := eq_of_getD (hz6.1.trans HY.out.symm) (fun t => by rw [hz6.2 t, HZ.out t, show kk = 0 by omega])
                    subst hyz
                    clear hz6
                    go_wp2_with fail
                    go_roundw
                    case rel => exact ⟨j + 1, zs, by omega, by go_num, HE.out _ _ (HY.out.trans HL.out) hA6 hR6 hK6⟩
                    case measure => simp [intOf]; omega
              · have hlast : k + m ≤ p * 64 := by omega
                go_wp2_with (first | (go_at_call 8; refine (err_any _ _).mono ?_; rintro e w' ⟨rfl, rfl⟩))
                go_loopw [15] (fun q wi => ∃ (kk : Nat) (zs : List Int), kk ≤ m ∧ q = .int .i64 kk ∧ IsArena wi b1 g1 ys ∧ Row wi 3 gw zs ∧ Zed xs zs k kk ∧ Keep [g1, gw] wr wi) (fun q _ => m - (intOf q).toNat)
                case atStart => exact ⟨0, xs, by omega, rfl, hA4, hR4, Zed.start xs k, hK5⟩
                case round =>
                  obtain ⟨kk, zs, hkk, rfl, hA6, hR6, hz6, hK6⟩ := hrel
                  clear hA4 hR4 hK5
                  by_cases hkm : kk < m
                  · have y6 := hR6.cell (i := k + kk) (by rw [hz6.1, HL.out]; omega)
                    have f6 := hR6.free (k + kk)
                    have hz7 := hz6.step (by rw [HL.out]; omega)
                    go_wp2_with fail
                    go_roundw
                    case rel => exact ⟨kk + 1, _, by omega, by go_num, hA6.keep (Keep.setCell (S := [gw]) _ _ (by simp)) (by simp; omega) (by simp; omega), hR6.put (k + kk) 0, hz7, hK6.trans (Keep.setCell _ _ (by simp))⟩
                    case measure => simp [intOf]; omega
                  · have hyz : zs = ys := eq_of_getD (hz6.1.trans HY.out.symm) (fun t => by rw [hz6.2 t, HZ.out t, show kk = m by omega])
                    subst hyz
                    clear hz6
                    go_wp2_with fail
                    go_roundw
                    case rel => exact ⟨j + 1, zs, by omega, by go_num, HE.out _ _ (HY.out.trans HL.out) hA6 hR6 hK6⟩
                    case measure => simp [intOf]; omega
            · have hf : 0 < (m : Int) ∧ ((p : Int) * 64 ≤ (k : Int) ∨ (k : Int) < (p : Int) * 64 ∧ (p : Int) * 64 - k < m) := by have := HL.out; omega
              obtain ⟨hm0, hf⟩ := hf
              rcases hf with hk1 | ⟨hk1, hk2⟩
              all_goals
                go_wp2_with (first | (go_at_call 8; refine (err_any _ _).mono ?_; rintro e w' ⟨rfl, rfl⟩))
                go_roundw
                case rel => exact ⟨j + 1, ys, by omega, by go_num, HE.out _ _ HL.out hA4 hR4 (hK3.trans (hK4.mono (by simp)))⟩
                case measure => simp [intOf]; omega
      · obtain ⟨hd0, hd1, hd2⟩ := hd
        by_cases hin : 0 ≤ i ∧ i < (p : Int) * 64
        · obtain ⟨hi0, hi1⟩ := hin
          obtain ⟨k, rfl⟩ := Int.eq_ofNat_of_zero_le hi0
          have y4 := hR3.cell (i := k) (by rw [HL.out]; omega)
          obtain ⟨y, hy⟩ : ∃ y, xs[k]?.getD 0 = y := ⟨_, rfl⟩
          rw [hy] at y4
          have HY := (show Hid (xs[k]?.getD 0 = y) from hy)
          clear hy
          go_wp2_with (first | (go_at_call 12; refine (load_yes b1 g1 k xs _ hA3 (by rw [HL.out]; omega)).mono ?_; rw [HY.out]; rintro e w4 ⟨rfl, rfl⟩) | (go_at_call 8; refine (err_any _ _).mono ?_; rintro e w' ⟨rfl, rfl⟩))
          go_roundw
          case rel => exact ⟨j + 1, xs, by omega, by go_num, HE.out _ _ HL.out hA3 hR3 hK3⟩
          case measure => simp [intOf]; omega
        · have hin' : i < 0 ∨ (p : Int) * 64 ≤ i := by omega
          rcases hin' with hi | hi
          all_goals
            go_wp2_with (first | (go_at_call 12; refine (load_no b1 g1 _ xs _ hA3 (by rw [HL.out]; omega)).mono ?_; rintro e w4 ⟨rfl, rfl⟩) | (go_at_call 8; refine (err_any _ _).mono ?_; rintro e w' ⟨rfl, rfl⟩))
            go_roundw
            case rel => exact ⟨j + 1, xs, by omega, by go_num, HE.out _ _ HL.out hA3 hR3 hK3⟩
            case measure => simp [intOf]; omega
    · clear hl
      have hK5 := hK2.drop (T := []) (by simp; omega)
      clear hK2
      go_wp2_with fail
      go_loop [18] (fun i => ∃ k : Nat, k ≤ p * 64 ∧ i = .int .i64 k) (fun i => p * 64 - (intOf i).toNat)
      case atStart => exact ⟨0, by omega, rfl⟩
      case round =>
        obtain ⟨k, hk, rfl⟩ := hrel
        by_cases hkl : k < p * 64
        · have y4 := hR2.cell (i := k) (by rw [HL.out]; omega)
          obtain ⟨y, hy⟩ : ∃ y, xs[k]?.getD 0 = y := ⟨_, rfl⟩
          rw [hy] at y4
          have HY := (show Hid (xs[k]?.getD 0 = y) from hy)
          clear hy
          go_wp2_with (first | (go_at_call 12; refine (load_yes b1 g1 k xs _ hA2 (by rw [HL.out]; omega)).mono ?_; rw [HY.out]; rintro e w4 ⟨rfl, rfl⟩) | (go_at_call 8; refine (err_any _ _).mono ?_; rintro e w' ⟨rfl, rfl⟩))
          go_round
          case rel => exact ⟨k + 1, by omega, by go_num⟩
          case measure => simp [intOf]; omega
        · have hb8 : (((p * 64 : Nat) : Int) == (p : Int) * 64) = true := by rw [beq_iff_eq]; omega
          go_wp2_with (first | (go_at_call 13; refine (len_any b1 g1 xs _ hA2).mono ?_; rw [HL.out]; rintro e w4 ⟨rfl, rfl⟩) | (go_at_call 9; refine (awake_any _).mono ?_; rintro e w8 ⟨rfl, hK8⟩))
          all_goals (go_ret; exact ⟨rfl, hK5.trans hK8⟩)

end Go.Proofs.Ytfjjcimdbmgaoaa

namespace Go.Proofs.Ytfjjcimdbmgaoaa.arenaRuns
open Go.RowKit
theorem walk (a0 : Int) (o1 : Option Addr) (len1 cap1 : Nat) (A1 : Nat → Nat → Int) (_w0 : (Lit.int .i64 a0).wf = true) (w1 : len1 ≤ 9223372036854775807) (w : World) (u1 : Asks w o1 3 len1 A1) :
    Calls Try.prog 3 #[.int .i64 a0, .slice o1 len1 cap1] w fun e w' => e = .returned (.bool true) ∧ Keep [] w w' := by
  by_cases h : 1 ≤ a0 ∧ a0 ≤ 256
  · obtain ⟨p, rfl⟩ := Int.eq_ofNat_of_zero_le (show 0 ≤ a0 by omega)
    by_cases hn : len1 ≤ 60
    · exact runs_any p o1 len1 cap1 A1 w (by omega) (by omega) hn u1
    · exact runs_long p o1 len1 cap1 w (by omega) (by omega) (by omega) w1
  · exact runs_no a0 o1 len1 cap1 w h
end Go.Proofs.Ytfjjcimdbmgaoaa.arenaRuns
