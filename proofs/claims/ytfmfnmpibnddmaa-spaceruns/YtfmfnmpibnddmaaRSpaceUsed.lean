/-
  Used of the document's own space.
-/
import Derived.Test.YtfmfnmpibnddmaaRSpaceEach
namespace Go.Proofs.Ytfmfnmpibnddmaa
open Go.RowKit

set_option maxRecDepth 100000 in
set_option maxHeartbeats 2000000 in
theorem rused_any (mb : Nat) (F : List Nat) (ws : List Int) (kd : List PK) (w : World) (h : IsRef w mb F ws kd) (hw : WF kd) :
    Calls Try.prog 21 #[.pointer (some ⟨mb, 0, none⟩)] w fun e w' => e = .returned (.int .i64 (usedK kd)) ∧ Keep [] w w' := by
  have HW := (show Hid (WF kd) from hw)
  have HS := (show Hid (IsRef w mb F ws kd) from h)
  have hlen : (eachK kd).length ≤ 32 * 256 := by have := hw.each_len kd.length; have := hw.len2; unfold eachK; omega
  clear h hw
  go_enter Try.func21, Try.ntmps21
  go_wp2_with fail
  refine (reach_any mb F ws kd w HS.out HW.out).mono ?_
  rintro e w1 ⟨v, rfl, ⟨la, lc, rfl, hI, _, _⟩, hK⟩
  have HI := (show Hid (IntsAt w1 la (eachK kd)) from hI)
  have HS1 := (show Hid (IsRef w1 mb F ws kd) from HS.out.keep0 hK)
  obtain ⟨n, hn⟩ : ∃ n, (eachK kd).length = n := ⟨_, rfl⟩
  have HN := (show Hid ((eachK kd).length = n) from hn)
  rw [hn] at hlen ⊢
  clear hI hn HS
  go_wp2_with fail
  go_loopw [3, 5] (fun u i wr => ∃ j : Nat, i = .int .i64 j ∧ j ≤ n ∧ u = .int .i64 (usedTo kd j) ∧ Keep [] w1 wr) (fun _ i _ => n - (intOf i).toNat)
  case atStart => exact ⟨0, rfl, by omega, rfl, Keep.refl _ _⟩
  case round =>
    obtain ⟨j, rfl, hj, rfl, hK2⟩ := hrel
    obtain ⟨w2, rfl⟩ : ∃ w2, w2 = wr := ⟨_, rfl⟩
    by_cases hlt : j < n
    · obtain ⟨b, off, rfl, hb, hc⟩ := HI.out.cells (by rw [HN.out]; omega)
      have hx := (hK2.cell hb (by simp) (off + j)).trans (hc j (by rw [HN.out]; exact hlt))
      have HU := (show Hid (usedTo kd (j + 1) = usedTo kd j + wordsAt kd ((eachK kd)[j]?.getD 0)) from usedTo_succ kd j (by rw [HN.out]; exact hlt))
      have ub := usedTo_bd HW.out j (by rw [HN.out]; exact hj)
      clear hc
      generalize (eachK kd)[j]?.getD 0 = a at *
      have wb := wordsAt_bd HW.out a
      obtain ⟨x, y, bb, hv, hy⟩ : ∃ x y bb, foundA (findI kd a) = .agg #[.int .i64 x, .int .i64 y, .bool bb] ∧ y = wordsAt kd a := by
        unfold wordsAt
        cases findI kd a with
        | none => exact ⟨0, 0, false, rfl, rfl⟩
        | some o => obtain ⟨s, m⟩ := o; exact ⟨s, m, true, rfl, rfl⟩
      have HV := (show Hid (foundA (findI kd a) = .agg #[.int .i64 x, .int .i64 y, .bool bb]) from hv)
      rw [← hy] at HU wb
      have hS2 := HS1.out.keep0 hK2
      generalize usedTo kd j = u at *
      have hsum : IntKind.i64.wrap (u + y) = u + y := IntWalk.i64_in _ (by omega)
      have hfd : ∀ w : World, (Instr.field 56 (.agg #[.int .i64 x, .int .i64 y, .bool bb]) 1).run Try.prog w = .ok (.int .i64 y) w := fun _ => by kernel_rfl
      clear hv hy
      go_wp2_with (go_at_call 25; refine (rfind_any mb F a ws kd w2 hS2 HW.out).mono ?_; rw [HV.out]; rintro e w3 ⟨rfl, hK3⟩)
      have hK4 := hK2.trans hK3
      go_roundw
      case rel => exact ⟨j + 1, by go_num, by omega, by rw [HU.out], hK4⟩
      case measure => simp [intOf]; omega
    · obtain rfl : j = n := by omega
      have HU := (show Hid (usedTo kd j = usedK kd) from by
        show _ = _
        unfold usedTo usedK; rw [← HN.out, List.take_of_length_le (Nat.le_refl _)])
      have hK4 := hK.trans hK2
      go_wp2_with fail
      go_ret
      exact ⟨by rw [← HU.out]; rfl, hK4⟩

end Go.Proofs.Ytfmfnmpibnddmaa
