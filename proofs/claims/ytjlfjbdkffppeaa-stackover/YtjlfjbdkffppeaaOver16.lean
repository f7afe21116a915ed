/-
  StackOver answers true, whatever it is given.
-/
import Derived.Test.YtjlfjbdkffppeaaAwake16
namespace Go.Proofs.Ytjlfjbdkffppeaa.stackOver
open Go.RowKit

/-- 0, 1, .. up to j. -/
def upI (j : Nat) : List Int := (List.range j).map Int.ofNat
theorem upI_length (j : Nat) : (upI j).length = j := by simp [upI]
theorem upI_snoc (j : Nat) : upI (j + 1) = upI j ++ [(j : Int)] := by simp [upI, List.range_succ]
theorem in1 {x : Int} (h : -9223372036854775808 ≤ x ∧ x ≤ 9223372036854775807) : inR [x] := by
  intro i
  rcases i with _ | i
  · exact h
  · simp
set_option maxRecDepth 100000 in
set_option maxHeartbeats 6400000 in
theorem over_any (n r k : Nat) (x : Int) (w : World) (_ : n < 256) (hr : (n : Int) % 30 = r) (hk : 1 + (r : Int) = k) (hk1 : 1 ≤ k) (hk30 : k ≤ 30) (hx : -9223372036854775808 ≤ x ∧ x ≤ 9223372036854775807) :
    Calls Try.prog 5 #[.int .u8 n, .int .i64 x] w fun e w' => e = .returned (.bool true) ∧ Keep [] w w' := by
  have HKR := (show Hid (k = r + 1) from by show _ = _; omega)
  have HXI := (show Hid (-9223372036854775808 ≤ x ∧ x ≤ 9223372036854775807) from hx)
  have hd7 : (k : Int) - 1 = r := by omega
  go_enter Try.func5, Try.ntmps5
  go_wp2_with fail
  refine (stnew_yes k _ hk1 (by omega)).mono ?_
  rintro e w1 ⟨sb, rfl, hX⟩
  have HX := (show Hid (Has w [] (stkA sb k [] false) w1) from hX)
  clear hX
  go_wp2_with (first | (go_at_call 7; refine (err_any _ _).mono ?_; rintro e w' ⟨rfl, rfl⟩))
  go_loopw [8] (fun i wr => ∃ j : Nat, i = .int .i64 j ∧ j ≤ k ∧ Hid (Has w [] (stkA sb k (upI j) false) wr)) (fun i _ => k - (intOf i).toNat)
  case atStart => exact ⟨0, rfl, by omega, show Hid (Has w [] (stkA sb k [] false) w1) from HX⟩
  case round =>
    obtain ⟨j, rfl, hj, HX2⟩ := hrel
    clear HX
    by_cases hlt : j < k
    · have hd : decide ((j : Int) < (k : Int)) = true := decide_eq_true (by omega)
      have hp := stpush (some ⟨wr.heap.size, 0, none⟩) 1 1 [(j : Int)] _ (HX2.out.newB (litO [(j : Int)])) (fun _ _ w' h => h.snd.fact (fun F h => ints_lit h (in1 (by omega)))) rfl (cap_lit _ 1 (by omega)) (by omega)
      rw [upI_length, show min 1 (k - j) = 1 by omega, show [(j : Int)].take (k - j) = [(j : Int)] from List.take_of_length_le (by simp; omega), ← upI_snoc, show (false || decide (k - j < 1)) = false by simp; omega] at hp
      have HP := hid hp
      clear hp
      go_wp2_with fail
      refine HP.out.mono ?_
      rintro e w3 ⟨rfl, hX3⟩
      have HX3 := hid hX3.fst
      clear hX3
      go_wp2_with (go_at_call 12; refine (stover _ HX3.out).mono ?_; rintro e w4 ⟨rfl, hK4⟩)
      go_roundw
      case rel => exact ⟨j + 1, by go_num, by omega, HX3.out.keep0 hK4⟩
      case measure => simp [intOf]; omega
    · have hd : decide ((j : Int) < (k : Int)) = false := decide_eq_false (by omega)
      obtain rfl : j = k := by omega
      have hp := stpush (some ⟨wr.heap.size, 0, none⟩) 1 1 [x] _ (HX2.out.newB (litO [x])) (fun _ _ w' h => h.snd.fact (fun F h => ints_lit h (in1 HXI.out))) rfl (cap_lit _ 1 (by omega)) (by omega)
      rw [upI_length, show min 1 (j - j) = 0 by omega, show [x].take (j - j) = [] by rw [Nat.sub_self]; rfl, List.append_nil, show (false || decide (j - j < 1)) = true by simp] at hp
      have HP := hid hp
      clear hp
      go_wp2_with fail
      refine HP.out.mono ?_
      rintro e w3 ⟨rfl, hX3⟩
      have HX3 := (show Hid (Has w [] (stkA sb j (upI r ++ [(r : Int)]) true) w3) from by
        have h := hX3.fst
        rw [HKR.out, upI_snoc, ← HKR.out] at h
        exact h)
      clear hX3 HP
      go_wp2_with (go_at_call 12; refine (stover _ HX3.out).mono ?_; rintro e w4 ⟨rfl, hK4⟩; have HX4 := hid (HX3.out.keep0 hK4))
      refine (stpop_yes _ _ HX4.out).mono ?_
      rintro e w5 ⟨rfl, hX5⟩
      have HX5 := hid hX5
      clear HX3 hK4 HX4 hX5
      go_wp2_with (go_at_call 12; refine (stover _ HX5.out).mono ?_; rintro e w6 ⟨rfl, hK6⟩; have HX6 := hid (HX5.out.keep0 hK6))
      refine (streset _ HX6.out).mono ?_
      rintro e w7 ⟨rfl, hX7⟩
      have HX7 := hid hX7
      clear HX5 hK6 HX6 hX7
      have hp := stpush (some ⟨w7.heap.size, 0, none⟩) 1 1 [x] _ (HX7.out.newB (litO [x])) (fun _ _ w' h => h.snd.fact (fun F h => ints_lit h (in1 HXI.out))) rfl (cap_lit _ 1 (by omega)) (by omega)
      rw [upI_length, show min 1 (j - r) = 1 by have := HKR.out; omega, show [x].take (j - r) = [x] from List.take_of_length_le (by have := HKR.out; simp; omega), show (false || decide (j - r < 1)) = false by have := HKR.out; simp; omega] at hp
      have HP := hid hp
      clear hp
      go_wp2_with fail
      refine HP.out.mono ?_
      rintro e w8 ⟨rfl, hX8⟩
      have HX8 := hid hX8.fst
      clear hX8 HP HX7
      go_wp2_with fail
      refine (stpop_yes _ _ HX8.out).mono ?_
      rintro e w9 ⟨rfl, hX9⟩
      have HX9 := hid hX9
      clear HX8 hX9
      go_wp2_with fail
      all_goals
        refine (stnew_no _ _ (.inl (by omega))).mono ?_
        rintro e w10 ⟨rfl, hK10⟩
        have HX10 := hid (HX9.out.keep0 hK10)
        clear hK10 HX9
        go_wp2_with fail
      all_goals
        refine (stnew_no _ _ (.inr (by omega))).mono ?_
        rintro e w11 ⟨rfl, hK11⟩
        have HX11 := hid (HX10.out.keep0 hK11)
        clear hK11 HX10
        go_wp2_with (first
          | (go_at_call 12; refine (stover _ HX11.out).mono ?_; rintro e w12 ⟨rfl, hK12⟩; have HX12 := hid (HX11.out.keep0 hK12))
          | (go_at_call 13; refine (stdepth _ HX12.out).mono ?_; simp only [upI_length]; rintro e w13 ⟨rfl, hK13⟩; have HX13 := hid (HX12.out.keep0 hK13))
          | (go_at_call 7; refine (err_any _ _).mono ?_; rintro e w' ⟨rfl, rfl⟩)
          | (go_at_call 8; refine (awake16_any _).mono ?_; rintro e w15 ⟨rfl, hK15⟩))
        go_ret
        exact ⟨rfl, HX13.out.K.trans hK15⟩
theorem walk (a0 a1 : Int) (w0 : (Lit.int .u8 a0).wf = true) (w1 : (Lit.int .i64 a1).wf = true) (w : World) :
    Calls Try.prog 5 #[.int .u8 a0, .int .i64 a1] w fun e w' => e = .returned (.bool true) ∧ Keep [] w w' := by
  have h0 := bounds_u8 w0
  have h1 := bounds_i64 w1
  obtain ⟨n, rfl⟩ : ∃ n : Nat, a0 = n := ⟨a0.toNat, by omega⟩
  obtain ⟨r, hr⟩ : ∃ r : Nat, (n : Int) % 30 = r := ⟨((n : Int) % 30).toNat, by omega⟩
  obtain ⟨k, hk⟩ : ∃ k : Nat, 1 + (r : Int) = k := ⟨1 + r, by omega⟩
  exact over_any n r k a1 w (by omega) hr hk (by omega) (by omega) ⟨by omega, by omega⟩
end Go.Proofs.Ytjlfjbdkffppeaa.stackOver
