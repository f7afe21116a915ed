/-
  BitsWalk answers true, whatever it is given.
-/
import Derived.Test.YtlknacpnckiklaaAwake2
import Derived.Test.YtlknacpnckiklaaOpens
namespace Go.Proofs.Ytlknacpnckiklaa
open Go.RowKit

/-- From l1 on the next one is i, and n are so ahead of l1. -/
structure Walked (xs : List Bool) (l1 n : Nat) (i : Int) : Prop where
  le : l1 ≤ xs.length
  next : nextR xs l1 true = i
  cnt : n = cnt xs l1
theorem Walked.done {xs : List Bool} {l1 n : Nat} {i : Int} (h : Walked xs l1 n i) (hi : i < 0) : n = cntA xs := by
  rcases nextR_spec xs true _ l1 rfl with ⟨_, e⟩ | ⟨j, e, _⟩
  · unfold cntA
    have := cnt_gap xs (xs.length - l1) l1 (by have := h.le; omega) (fun t a b => by have := e t a (by omega); simpa using this)
    rw [show l1 + (xs.length - l1) = xs.length by have := h.le; omega] at this
    rw [this]; exact h.cnt
  · have := h.next; omega
theorem Walked.step {xs : List Bool} {l1 n j : Nat} (h : Walked xs l1 n j) : l1 ≤ j ∧ j < xs.length ∧ xs[j]?.getD false = true ∧ n + 1 = Go.Proofs.Ytlknacpnckiklaa.cnt xs (j + 1) := by
  rcases nextR_spec xs true _ l1 rfl with ⟨e, _⟩ | ⟨k, e, a, b, c, d⟩
  · have := h.next; omega
  · obtain rfl : k = j := by have := h.next; omega
    refine ⟨a, b, c, ?_⟩
    have g := cnt_gap xs (k - l1) l1 (by omega) (fun t c e => by have := d t c (by omega); simpa using this)
    rw [show l1 + (k - l1) = k by omega] at g
    rw [cnt_step xs k b, if_pos c, g, ← h.cnt]

theorem nextR_lim (xs : List Bool) (i : Nat) (v : Bool) (h : xs.length = 256) : -1 ≤ nextR xs i v ∧ nextR xs i v < 256 := by
  have := nextR_bd xs i v; omega

set_option maxRecDepth 100000 in
set_option maxHeartbeats 2000000 in
theorem walk_any (ao : Option Addr) (n c : Nat) (A : Nat → Nat) (w : World) (hn : n ≤ 9223372036854775807) (hl : U8At w ao n A) :
    Calls Try.prog 6 #[.slice ao n c] w fun e w' => e = .returned (.bool true) ∧ Keep [] w w' := by
  have hmk : ∀ w, (Instr.makeSlice 29 (.int .i64 256) (.int .i64 256)).run Try.prog w = .ok (.slice (some ⟨w.heap.size, 0, none⟩) 256 256) (w.alloc (.cells (madeCells #[.bool false] 256) 4)) :=
    fun w => run_make_row' (P := Try.prog) 29 4 (.bool false) 1 Try.underlying29 Try.infoBool rfl .i64 .i64 256 (by omega) (by omega) w
  go_enter Try.func6, Try.ntmps6
  go_wp2_with fail
  refine (bnew_ok 256 w (by omega)).mono ?_
  rintro e w1 ⟨b, g, rfl, hA, hK, hb, hg⟩
  go_wp2_with (first | (go_at_call 9; refine (err_any _ _).mono ?_; rintro e w' ⟨rfl, rfl⟩))
  clear hmk
  have hR := BRow.made w1 4 256
  have hA1 := hA.keep (Keep.alloc [] w1 (.cells (madeCells #[.bool false] 256) 4)) (by simp) (by simp)
  have hK1 : Keep [] w (w1.alloc (.cells (madeCells #[.bool false] 256) 4)) := hK.trans (Keep.alloc [] _ _)
  have l1 := hA.lt
  have hsz := hK.size
  clear hA hK
  generalize w1.alloc (.cells (madeCells #[.bool false] 256) 4) = w2 at *
  generalize w1.heap.size = gi at *
  have hgi : w.heap.size ≤ gi := hsz
  have hbi : b ≠ gi := by omega
  have hgg : g ≠ gi := by omega
  clear l1 hsz
  have HN := (show Hid (U8At w ao n A) from hl)
  clear hl
  go_loopw [5, 7] (fun q i wr => ∃ (j : Nat) (xs : List Bool), j ≤ n ∧ i = .int .i64 j ∧ q = .int .i64 (cntA xs) ∧ IsBits wr b g xs ∧ BRow wr 4 gi xs ∧ Hid (xs.length = 256) ∧ Keep [g, gi] w wr) (fun _ i _ => n - (intOf i).toNat)
  case atStart => exact ⟨0, offs 256, by omega, rfl, by rw [cntA_offs]; rfl, hA1, hR, offs_length _, hK1.mono (by simp)⟩
  case round =>
    obtain ⟨j, xs, hj, rfl, rfl, hA2, hR2, HL, hK2⟩ := hrel
    clear hA1 hR hK1
    by_cases hlt : j < n
    · have hl2 := HN.out.keep hK2 (by simp; omega)
      obtain ⟨ab, off, rfl, hab, hcs⟩ := HN.out.cells (by omega)
      have hane : ab ≠ gi := by omega
      have hc := (hK2.cell hab (by simp; omega) (off + j)).trans (hcs j hlt)
      have hlt8 := hl2.lt j
      clear hl2 hcs
      generalize A j = k at *
      have hk : k < xs.length := by rw [HL.out]; exact hlt8
      have y1 := hR2.cell hk
      have y2 := hR2.free k
      have hA3 := hA2.keep (Keep.setCell (S := [gi]) wr (a := ⟨gi, k, none⟩) (.bool true) (by simp)) (by simp; omega) (by simp; omega)
      have hR3 := hR2.put k true
      have HC := (show Hid (cntA (xs.set k true) = cntA xs + if xs[k]?.getD false = true then 0 else 1) from cntA_set xs k hk)
      have hcb : cntA xs ≤ 256 := by have := cnt_le xs xs.length; rw [HL.out] at this; unfold cntA; rw [HL.out]; exact this
      have hK3 : Keep [g, gi] w (wr.setCell ⟨gi, k, none⟩ (.bool true)) := hK2.trans (Keep.setCell _ _ (by simp))
      clear hA2 hR2 hK2
      by_cases hv : xs[k]?.getD false = true
      · rw [if_pos hv] at HC
        rw [hv] at y1
        clear hv
        go_wp2_with fail
        refine (bset_one' b g k _ true _ _ (by simp [World.setCell]) hA3 hk).mono ?_
        rintro e w5 ⟨rfl, hA5, hK5⟩
        have hR5 := hR3.keep hK5 (by simpa using hgg.symm)
        go_wp2_with fail
        go_roundw
        case rel => exact ⟨j + 1, xs.set k true, by omega, by go_num, by rw [HC.out]; rfl, hA5, hR5, by show (xs.set k true).length = 256; rw [List.length_set]; exact HL.out, hK3.trans (hK5.mono (by simp))⟩
        case measure => simp [intOf]; omega
      · rw [if_neg hv] at HC
        have hv' : xs[k]?.getD false = false := by simpa using hv
        rw [hv'] at y1
        clear hv hv'
        go_wp2_with fail
        refine (bset_one' b g k _ true _ _ (by simp [World.setCell]) hA3 hk).mono ?_
        rintro e w5 ⟨rfl, hA5, hK5⟩
        have hR5 := hR3.keep hK5 (by simpa using hgg.symm)
        go_wp2_with fail
        go_roundw
        case rel => exact ⟨j + 1, xs.set k true, by omega, by go_num, by rw [HC.out]; go_num, hA5, hR5, by show (xs.set k true).length = 256; rw [List.length_set]; exact HL.out, hK3.trans (hK5.mono (by simp))⟩
        case measure => simp [intOf]; omega
    · have hK5 := hK2.drop (T := []) (by simp; omega)
      have hd : decide (j < n) = false := by rw [decide_eq_false_iff_not]; omega
      have hcb : cntA xs ≤ 256 := by have := cnt_le xs xs.length; rw [HL.out] at this; unfold cntA; rw [HL.out]; exact this
      clear hK2 hlt hj
      go_wp2_with fail
      refine (bnext_any b g 0 true _ _ hA2 (by omega)).mono ?_
      rintro e w5 ⟨rfl, rfl⟩
      go_wp2_with fail
      go_loop [8, 9, 10] (fun q l i => ∃ (m l1 : Nat) (z : Int), q = .int .i64 m ∧ l = .int .i64 ((l1 : Int) - 1) ∧ i = .int .i64 z ∧ l1 ≤ 256 ∧ m ≤ l1 ∧ -1 ≤ z ∧ z < 256 ∧ Hid (Walked xs l1 m z)) (fun _ l _ => (256 - (intOf l + 1)).toNat)
      case atStart => exact ⟨0, 0, _, rfl, rfl, rfl, by omega, by omega, (nextR_lim xs 0 true HL.out).1, (nextR_lim xs 0 true HL.out).2, ⟨by omega, rfl, (cnt_zero xs).symm⟩⟩
      case round =>
        obtain ⟨m, l1, z, rfl, rfl, rfl, hl1, hm, hz1, hz2, HW⟩ := hrel
        by_cases hz : 0 ≤ z
        · obtain ⟨k, rfl⟩ := Int.eq_ofNat_of_zero_le hz
          obtain ⟨s1, s2, s3, s4⟩ := HW.out.step
          have y1 := hR2.cell s2
          rw [s3] at y1
          have hd1 : decide ((k : Int) ≤ (l1 : Int) - 1) = false := by rw [decide_eq_false_iff_not]; omega
          clear s3
          have H4 := (show Hid (m + 1 = cnt xs (k + 1)) from s4)
          clear s4
          go_wp2_with fail
          refine (bnext_any b g ((k : Int) + 1) true _ _ hA2 (by omega)).mono ?_
          rintro e w5 ⟨rfl, rfl⟩
          go_wp2_with fail
          go_round
          case rel =>
            have hlim := nextR_lim xs ((k : Int) + 1).toNat true HL.out
            exact ⟨m + 1, k + 1, _, by go_num, by go_num, rfl, by have := HL.out; omega, by omega, hlim.1, hlim.2, ⟨by omega, rfl, H4.out⟩⟩
          case measure => simp [intOf]; omega
        · have hdn := HW.out.done (by omega)
          subst hdn
          have hd1 : decide (0 ≤ z) = false := by rw [decide_eq_false_iff_not]; omega
          go_wp2_with (first | (go_at_call 19; refine (bcount_any _ _ _ _ hA2).mono ?_; rintro e w' ⟨rfl, rfl⟩) | (go_at_call 13; refine (bnext_any b g 256 false _ _ hA2 (by omega)).mono ?_; rw [nextR_end _ _ _ (by rw [HL.out]; decide)]; rintro e w' ⟨rfl, rfl⟩) | (go_at_call 10; refine (awake2_any _).mono ?_; rintro e w8 ⟨rfl, hK8⟩))
          go_ret
          exact ⟨rfl, hK5.trans hK8⟩

end Go.Proofs.Ytlknacpnckiklaa

namespace Go.Proofs.Ytlknacpnckiklaa.bitsWalk
open Go.RowKit
theorem walk (o0 : Option Addr) (len0 cap0 : Nat) (A0 : Nat → Nat) (w0 : len0 ≤ 9223372036854775807) (w : World) (u0 : U8At w o0 len0 A0) :
    Calls Try.prog 6 #[.slice o0 len0 cap0] w fun e w' => e = .returned (.bool true) ∧ Keep [] w w' :=
  walk_any o0 len0 cap0 A0 w w0 u0
end Go.Proofs.Ytlknacpnckiklaa.bitsWalk
