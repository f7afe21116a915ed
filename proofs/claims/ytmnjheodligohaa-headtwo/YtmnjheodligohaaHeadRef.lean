/-
  The document's own words on heads: what its calls answer; and the examples of the eighth folder.
-/
import Derived.Test.YtmnjheodligohaaHeadGet
namespace Go.Proofs.Ytmnjheodligohaa
open Go.RowKit

instance (x k c l : Int) (f : Bool) : Decidable (Word x k c l f) := by unfold Word; infer_instance

theorem hget_yes (x k c l : Int) (f : Bool) (w : World) (h : Word x k c l f) :
    Calls Try.prog 11 #[.int .i64 x] w fun e w' => e = .returned (.tuple #[.agg #[.int .i64 k, .int .i64 c, .int .i64 l, .bool f], .bool true]) ∧ Keep [] w w' := by
  obtain ⟨h1, h2, h3, h4, h5, h6⟩ := h.parts
  exact hget_raw_yes x k c l f w (by omega) h3 h4 h5 h6 h.1
theorem hget_no (x : Int) (w : World) (hx : -9223372036854775808 ≤ x ∧ x ≤ 9223372036854775807) (h : ∀ k c l f, ¬ Word x k c l f) :
    Calls Try.prog 11 #[.int .i64 x] w fun e w' => e = .returned (.tuple #[.agg #[.int .i64 0, .int .i64 0, .int .i64 0, .bool false], .bool false]) ∧ Keep [] w w' := by
  refine hget_raw_no x _ _ _ _ w hx rfl rfl rfl rfl ?_
  rw [Bool.eq_false_iff]
  exact fun hm => h _ _ _ _ (word_of hm)

set_option maxRecDepth 100000 in
set_option maxHeartbeats 800000 in
theorem rmayh_any (k c l : Int) (f : Bool) (w : World) : Calls Try.prog 9 #[.agg #[.int .i64 k, .int .i64 c, .int .i64 l, .bool f]] w fun e w' => e = .returned (.bool (mayH k c l f)) ∧ Keep [] w w' := by
  have hK1 := Keep.alloc [] w (.cells #[.int .i64 k, .int .i64 c, .int .i64 l, .bool f] 23)
  obtain ⟨m, hm⟩ : ∃ m, mayH k c l f = m := ⟨_, rfl⟩
  have HM := (show Hid (mayH k c l f = m) from hm)
  rw [hm]
  clear hm
  go_enter Try.func9, Try.ntmps9
  go_wp2_with fail
  all_goals
    go_ret
    refine ⟨?_, Keep.alloc _ _ _⟩
    rw [← HM.out]
    unfold mayH
    simp_all
    try (first | omega | rfl)

set_option maxRecDepth 100000 in
set_option maxHeartbeats 800000 in
theorem rputh_yes (k c l : Int) (f : Bool) (w : World) (hm : mayH k c l f = true) : Calls Try.prog 10 #[.agg #[.int .i64 k, .int .i64 c, .int .i64 l, .bool f]] w fun e w' => e = .returned (.int .i64 (putH k c l f)) ∧ Keep [] w w' := by
  obtain ⟨b1, b2, b3, b4, b5, b6⟩ := mayH_bd hm
  clear hm
  cases f
  all_goals
    go_enter Try.func10, Try.ntmps10
    go_wp2_with fail
    go_ret
    exact ⟨by simp [putH], Keep.alloc _ _ _⟩

theorem word3 : Word 3 3 0 0 false := by decide
theorem put3 : putN 3 0 0 false = 3 := by decide
theorem may3 : mayH 3 0 0 false = true := by decide
set_option maxRecDepth 100000 in
set_option maxHeartbeats 800000 in
theorem awake8_any (w : World) : Calls Try.prog 14 #[] w fun e w' => e = .returned (.bool true) ∧ Keep [] w w' := by
  go_enter Try.func14, Try.ntmps14
  go_wp2_with (first | (go_at_call 8; refine (hput_any 3 0 0 false _).mono ?_; rw [put3, may3]; rintro e w1 ⟨rfl, hK1⟩) | (go_at_call 11; refine (hget_yes 3 3 0 0 false _ word3).mono ?_; rintro e w2 ⟨rfl, hK2⟩))
  go_ret
  exact ⟨rfl, (hK1.trans hK2).trans (Keep.alloc _ _ _)⟩

end Go.Proofs.Ytmnjheodligohaa
