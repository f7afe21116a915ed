/-
  BitsRuns answers true, whatever it is given.
-/
import Derived.Test.YtlknacpnckiklaaAwake2
import Derived.Test.YtlknacpnckiklaaRefBits
import Derived.Test.YtlknacpnckiklaaOpenAsk
import Derived.Deep.RegionHeld3
namespace Go.Proofs.Ytlknacpnckiklaa
open Go.RowKit

set_option maxRecDepth 100000 in
set_option maxHeartbeats 1000000 in
theorem runs2_no (p : Int) (ao : Option Addr) (n c : Nat) (w : World) (h : ¬ (0 ≤ p ∧ p ≤ 16384)) :
    Calls Try.prog 3 #[.int .i64 p, .slice ao n c] w fun e w' => e = .returned (.bool true) ∧ Keep [] w w' := by
  rcases (show p < 0 ∨ 0 ≤ p ∧ 16384 < p by omega) with h1 | ⟨h0, h1⟩
  all_goals
    go_enter Try.func3, Try.ntmps3
    go_wp2_with (first | (go_at_call 8; refine (bnew_no _ _ h).mono ?_; rintro e w' ⟨rfl, rfl⟩) | (go_at_call 9; refine (err_any _ _).mono ?_; rintro e w' ⟨rfl, rfl⟩) | (go_at_call 10; refine (awake2_any _).mono ?_; rintro e w8 ⟨rfl, hK8⟩))
    go_ret
    exact ⟨rfl, hK8⟩

set_option maxRecDepth 100000 in
set_option maxHeartbeats 1000000 in
theorem runs2_long (p : Nat) (ao : Option Addr) (n c : Nat) (w : World) (h2 : p ≤ 16384) (hn : 300 < p ∨ p ≤ 300 ∧ 40 < n) (hn2 : n ≤ 9223372036854775807) :
    Calls Try.prog 3 #[.int .i64 p, .slice ao n c] w fun e w' => e = .returned (.bool true) ∧ Keep [] w w' := by
  rcases hn with hn | ⟨hn, hn'⟩
  all_goals
    go_enter Try.func3, Try.ntmps3
    go_wp2_with (first | (go_at_call 8; refine (bnew_ok _ _ h2).mono ?_; rintro e w1 ⟨b1, g1, rfl, hA, hK, hb1, hg1⟩) | (go_at_call 9; refine (err_any _ _).mono ?_; rintro e w' ⟨rfl, rfl⟩) | (go_at_call 10; refine (awake2_any _).mono ?_; rintro e w8 ⟨rfl, hK8⟩))
    go_ret
    exact ⟨rfl, hK.trans hK8⟩

set_option maxRecDepth 100000 in
set_option maxHeartbeats 8000000 in
theorem runs2_any (p : Nat) (ao : Option Addr) (n c : Nat) (A : Nat → AskV) (w : World) (h2 : p ≤ 300) (hn : n ≤ 40) (hl : AsksAt w ao n A) :
    Calls Try.prog 3 #[.int .i64 p, .slice ao n c] w fun e w' => e = .returned (.bool true) ∧ Keep [] w w' := by
  have hmk : ∀ w, (Instr.makeSlice 30 (.int .i64 (p : Int)) (.int .i64 (p : Int))).run Try.prog w = .ok (.slice (some ⟨w.heap.size, 0, none⟩) p p) (w.alloc (.cells (madeCells #[.bool false] p) 4)) :=
    fun w => run_make_row' (P := Try.prog) 30 4 (.bool false) 1 Try.underlying30 Try.infoBool rfl .i64 .i64 p (by omega) (by omega) w
  have hp0 : decide ((p : Int) < 0) = false := by rw [decide_eq_false_iff_not]; omega
  have hp1 : decide (16384 < (p : Int)) = false := by rw [decide_eq_false_iff_not]; omega
  have hp2 : decide (300 < (p : Int)) = false := by rw [decide_eq_false_iff_not]; omega
  have hn6 : decide (40 < (n : Int)) = false := by rw [decide_eq_false_iff_not]; omega
  go_enter Try.func3, Try.ntmps3
  go_wp2_with (first | (go_at_call 8; refine (bnew_ok _ _ (by omega)).mono ?_; rintro e w1 ⟨b, g, rfl, hA, hK, hb, hg⟩) | (go_at_call 9; refine (err_any _ _).mono ?_; rintro e w' ⟨rfl, rfl⟩))
  clear hmk
  have hR := BRow.made w1 4 p
  have hA1 := hA.keep (Keep.alloc [] w1 (.cells (madeCells #[.bool false] p) 4)) (by simp) (by simp)
  have hK1 : Keep [] w (w1.alloc (.cells (madeCells #[.bool false] p) 4)) := hK.trans (Keep.alloc [] _ _)
  have l1 := hA.lt
  have hsz := hK.size
  clear hA hK
  generalize w1.alloc (.cells (madeCells #[.bool false] p) 4) = w2 at *
  generalize w1.heap.size = gm at *
  have HN := (show Hid (AsksAt w ao n A) from hl)
  clear hl
  go_loopw [8] (fun i wr => ∃ (j : Nat) (xs : List Bool), j ≤ n ∧ i = .int .i64 j ∧ IsBits wr b g xs ∧ BRow wr 4 gm xs ∧ Hid (xs.length = p) ∧ Keep [g, gm] w wr) (fun i _ => n - (intOf i).toNat)
  case atStart => exact ⟨0, _, by omega, rfl, hA1, hR, offs_length _, hK1.mono (by simp)⟩
  case round =>
    obtain ⟨j, xs, hj, rfl, hA2, hR2, HL, hK2⟩ := hrel
    clear hA1 hR hK1
    by_cases hlt : j < n
    · obtain ⟨ab, off, rfl, hab, hc⟩ := HN.out.cells (by omega)
      have hbS : ab ∉ [g, gm] := by simp; omega
      obtain ⟨q0, q1, q2, q3⟩ := hc j hlt
      have c0 := (hK2.cell hab hbS (off + j * 4)).trans q0
      have c1 := (hK2.cell hab hbS (off + j * 4 + 1)).trans q1
      have c2 := (hK2.cell hab hbS (off + j * 4 + 2)).trans q2
      have c3 := (hK2.cell hab hbS (off + j * 4 + 3)).trans q3
      have hO := HN.out.ok j hlt
      clear q0 q1 q2 q3 hc hbS
      generalize A j = a at *
      obtain ⟨ai, aa, ac, aL, an, ak⟩ := a
      simp only at c0 c1 c2 c3 hO
      have HO := (show Hid (AskOk w ⟨ai, aa, ac, aL, an, ak⟩) from hO)
      have o1 := hO.n1
      have o2 := hO.n2
      have o3 := hO.k1
      have o4 := hO.k2
      have o5 := hO.len
      simp only at o1 o2 o3 o4 o5
      clear hO
      by_cases h20 : 20 < aL.length
      · have h20' : decide (20 < (aL.length : Int)) = true := by rw [decide_eq_true_iff]; omega
        go_wp2_with (go_at_call 10; refine (awake2_any _).mono ?_; rintro e w8 ⟨rfl, hK8⟩)
        go_ret
        exact ⟨rfl, ((hK2.trans (Keep.alloc _ _ _)).drop (T := []) (by simp; omega)).trans hK8⟩
      · have h20' : decide (20 < (aL.length : Int)) = false := by rw [decide_eq_false_iff_not]; omega
        go_wp2_with fail
        have hKb := Keep.alloc [] wr (Obj.cells #[Value.bool ai, Value.slice aa aL.length ac, Value.int IntKind.i64 an, Value.int IntKind.i64 ak] 33)
        have hA3 := hA2.keep hKb (by simp) (by simp)
        have hR3 := hR2.keep hKb (by simp)
        have hbx := heap_alloc_new wr (Obj.cells #[Value.bool ai, Value.slice aa aL.length ac, Value.int IntKind.i64 an, Value.int IntKind.i64 ak] 33)
        have hK3 : Keep [g, gm] w (wr.alloc (Obj.cells #[Value.bool ai, Value.slice aa aL.length ac, Value.int IntKind.i64 an, Value.int IntKind.i64 ak] 33)) := hK2.trans (hKb.mono (by simp))
        have hbl : wr.heap.size < (wr.alloc (Obj.cells #[Value.bool ai, Value.slice aa aL.length ac, Value.int IntKind.i64 an, Value.int IntKind.i64 ak] 33)).heap.size := by simp
        have hlb := hA2.lt
        have hlm := hR2.lt
        clear hA2 hR2 hK2 hKb c0 c1 c2 c3
        generalize wr.alloc (Obj.cells #[Value.bool ai, Value.slice aa aL.length ac, Value.int IntKind.i64 an, Value.int IntKind.i64 ak] 33) = w3 at *
        generalize wr.heap.size = bx at *
        have x0 : w3.cell? ⟨bx, 0, none⟩ = some (.bool ai) := by simp [World.cell?, hbx]
        have x1 : w3.cell? ⟨bx, 1, none⟩ = some (.slice aa aL.length ac) := by simp [World.cell?, hbx]
        have x2 : w3.cell? ⟨bx, 2, none⟩ = some (.int .i64 an) := by simp [World.cell?, hbx]
        have x3 : w3.cell? ⟨bx, 3, none⟩ = some (.int .i64 ak) := by simp [World.cell?, hbx]
        have hA4 := hA3.keep (Keep.drew [] w3) (by simp) (by simp)
        have hR4 := hR3.keep (Keep.drew [] w3) (by simp)
        have hK4 := hK3.trans (Keep.drew [g, gm] w3)
        have hI4 := HO.out.ints.keep hK4 (HO.out.ints.off (by simp; omega))
        have HX := (show Hid (IntsAt w aa aL) from HO.out.ints)
        have hbx4 : w3.drew.heap[bx]? = some (Obj.cells #[Value.bool ai, Value.slice aa aL.length ac, Value.int IntKind.i64 an, Value.int IntKind.i64 ak] 33) := hbx
        clear hA3 hR3 hK3 hbx
        have HY := (show Hid ((setR xs ai aL).length = p) from (setR_length xs ai aL).trans HL.out)
        simp only [List.append_eq, List.cons_append, List.nil_append]
        go_region_held3 (fun wz => wz.cell? ⟨bx, 0, none⟩ = some (.bool ai) ∧ wz.cell? ⟨bx, 1, none⟩ = some (.slice aa aL.length ac) ∧ wz.cell? ⟨bx, 2, none⟩ = some (.int .i64 an) ∧ wz.cell? ⟨bx, 3, none⟩ = some (.int .i64 ak)) (go_keep) (first | (go_at_call 11; refine (bset_any b g ac ai xs aa aL _ hA4 hI4 (HX.out.off (by simp; omega)) o5).mono ?_; rw [HL.out]; rintro e w5 ⟨rfl, hA5, hK5⟩; have hR5 := hR4.keep hK5 (by simp; omega); have d0 := hK5.blk hbx4 (by simp; omega); have hI5 := hI4.keep hK5 (HX.out.off (by simp; omega)); have y0 : w5.cell? ⟨bx, 0, none⟩ = some (.bool ai) := (by simp [World.cell?, d0]); have y1 : w5.cell? ⟨bx, 1, none⟩ = some (.slice aa aL.length ac) := (by simp [World.cell?, d0]); have y2 : w5.cell? ⟨bx, 2, none⟩ = some (.int .i64 an) := (by simp [World.cell?, d0]); have y3 : w5.cell? ⟨bx, 3, none⟩ = some (.int .i64 ak) := (by simp [World.cell?, d0])) | (go_at_call 12; refine (rset_any gm p p ac ai xs aa aL _ hR5 HL.out hI5 (HX.out.off (by simp; omega)) o5).mono ?_; rintro e w6 ⟨rfl, hR6, hK6⟩; have hA6 := hA5.keep hK6 (by simp; omega) (by simp; omega); have d1 := hK6.blk d0 (by simp; omega); have z0 : w6.cell? ⟨bx, 0, none⟩ = some (.bool ai) := (by simp [World.cell?, d1]); have z1 : w6.cell? ⟨bx, 1, none⟩ = some (.slice aa aL.length ac) := (by simp [World.cell?, d1]); have z2 : w6.cell? ⟨bx, 2, none⟩ = some (.int .i64 an) := (by simp [World.cell?, d1]); have z3 : w6.cell? ⟨bx, 3, none⟩ = some (.int .i64 ak) := (by simp [World.cell?, d1])) | (go_at_call 9; refine (err_any _ _).mono ?_; rintro e w' ⟨rfl, rfl⟩) | (go_at_call 13; refine (bnext_any b g an ai _ _ hA6 o2).mono ?_; rintro e w' ⟨rfl, rfl⟩) | (go_at_call 14; refine (rnext_any gm p p an ai _ _ hR6 HY.out (by omega) o2).mono ?_; rintro e w' ⟨rfl, rfl⟩) | (go_at_call 15; refine (brun_any b g an ak _ _ hA6 o2 o4).mono ?_; rintro e w' ⟨rfl, rfl⟩) | (go_at_call 16; refine (rrun_any gm p p an ak _ _ hR6 HY.out (by omega) o2).mono ?_; rintro e w' ⟨rfl, rfl⟩) | (go_at_call 17; refine (bhas_any b g an _ _ hA6).mono ?_; rintro e w' ⟨rfl, rfl⟩) | (go_at_call 18; refine (rhas_any gm p p an _ _ hR6 HY.out).mono ?_; rintro e w' ⟨rfl, rfl⟩) | (go_at_call 19; refine (bcount_any b g _ _ hA6).mono ?_; rintro e w' ⟨rfl, rfl⟩) | (go_at_call 20; refine (rcount_any gm p p _ _ hR6 HY.out (by omega)).mono ?_; rintro e w' ⟨rfl, rfl⟩) | (go_at_call 21; refine (bsize_any b g _ _ hA6).mono ?_; rw [HY.out]; rintro e w' ⟨rfl, rfl⟩))
        have hK7 := (hK4.trans (hK5.mono (by simp))).trans (hK6.mono (T := [g, gm]) (by simp))
        clear hA5 hR5 hA4 hR4 x0 x1 x2 x3 y0 y1 y2 y3 d0 d1 hbx4 hI4 hI5 hK5 hK6 hK4
        go_wp2_with fail
        go_roundw
        case rel => exact ⟨j + 1, setR xs ai aL, by omega, by go_num, hA6, hR6, HY, hK7⟩
        case measure => simp [intOf]; omega
    · have hK5 := hK2.drop (T := []) (by simp; omega)
      have hd : decide (j < n) = false := by rw [decide_eq_false_iff_not]; omega
      clear hK2 hlt hj
      go_wp2_with fail
      go_loop [10] (fun i => ∃ z : Int, i = .int .i64 z ∧ -1 ≤ z ∧ z ≤ (p : Int) + 1) (fun i => ((p : Int) + 1 - intOf i).toNat)
      case atStart => exact ⟨-1, rfl, by omega, by omega⟩
      case round =>
        obtain ⟨z, rfl, hz1, hz2⟩ := hrel
        by_cases hzp : z ≤ (p : Int)
        · go_wp2_with (first | (go_at_call 17; refine (bhas_any b g z _ _ hA2).mono ?_; rintro e w' ⟨rfl, rfl⟩) | (go_at_call 18; refine (rhas_any gm p p z _ _ hR2 HL.out).mono ?_; rintro e w' ⟨rfl, rfl⟩))
          go_round
          case rel => exact ⟨z + 1, rfl, by omega, by omega⟩
          case measure => simp [intOf] <;> omega
        · have hd1 : decide (z ≤ (p : Int)) = false := by rw [decide_eq_false_iff_not]; exact hzp
          go_wp2_with (go_at_call 10; refine (awake2_any _).mono ?_; rintro e w8 ⟨rfl, hK8⟩)
          go_ret
          exact ⟨rfl, hK5.trans hK8⟩

end Go.Proofs.Ytlknacpnckiklaa

namespace Go.Proofs.Ytlknacpnckiklaa.bitsRuns
open Go.RowKit
theorem walk (a0 : Int) (o1 : Option Addr) (len1 cap1 : Nat) (A1 : Nat → AskV) (_w0 : (Lit.int .i64 a0).wf = true) (w1 : len1 ≤ 9223372036854775807) (w : World) (u1 : AsksAt w o1 len1 A1) :
    Calls Try.prog 3 #[.int .i64 a0, .slice o1 len1 cap1] w fun e w' => e = .returned (.bool true) ∧ Keep [] w w' := by
  by_cases h : 0 ≤ a0 ∧ a0 ≤ 16384
  · obtain ⟨p, rfl⟩ := Int.eq_ofNat_of_zero_le h.1
    by_cases hn : p ≤ 300 ∧ len1 ≤ 40
    · exact runs2_any p o1 len1 cap1 A1 w hn.1 hn.2 u1
    · exact runs2_long p o1 len1 cap1 w (by omega) (by omega) w1
  · exact runs2_no a0 o1 len1 cap1 w h
end Go.Proofs.Ytlknacpnckiklaa.bitsRuns
