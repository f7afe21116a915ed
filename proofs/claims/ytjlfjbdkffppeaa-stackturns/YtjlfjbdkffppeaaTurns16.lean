/-
  StackTurns answers true, whatever it is given.
-/
import Derived.Test.YtjlfjbdkffppeaaAwake16
namespace Go.Proofs.Ytjlfjbdkffppeaa.stackTurns
open Go.RowKit

theorem take_snoc (L : List Int) (t : Nat) (h : t < L.length) : L.take (t + 1) = L.take t ++ [L[t]?.getD 0] := by
  rw [List.take_add_one]; simp [h]
set_option maxRecDepth 100000 in
set_option maxHeartbeats 6400000 in
theorem turns_over (n r k : Nat) (la : Option Addr) (m c : Nat) (L : List Int) (w : World) (_ : n < 256) (hr : (n : Int) % 50 = r) (hk : 1 + (r : Int) = k) (hk1 : 1 ≤ k) (_ : k ≤ 50) (hA : IntsAt w la L) (hm : L.length = m) (hc : capOk la m c) (_ : m ≤ 100) (h1 : k < m) :
    Calls Try.prog 4 #[.int .u8 n, .slice la m c] w fun e w' => e = .returned (.bool true) ∧ Keep [] w w' := by
  have HA := hid hA
  have HM := hid hm
  clear hA hm
  go_enter Try.func4, Try.ntmps4
  go_wp2_with fail
  refine (stnew_yes k _ hk1 (by omega)).mono ?_
  rintro e w1 ⟨sb, rfl, hX⟩
  have HX := (show Hid (Has w [] (stkA sb k [] false) w1) from hX)
  have d1 : decide (100 < (m : Int)) = false := decide_eq_false (by omega)
  have hp := stpush (B := emptyA) la m c L w1 (hX.more (Keep.refl [] _) (B := emptyA) (G := []) rfl (fun k hk => by cases hk)) (fun _ _ w' h => HA.out.keep h.K (HA.out.off (by simp))) HM.out hc (by omega)
  rw [List.length_nil, Nat.sub_zero, List.nil_append, Bool.false_or, show decide (k < m) = true from decide_eq_true h1, show min m k = k by omega, show L.take k = L.take k from rfl] at hp
  have HP := hid hp
  have HQL := (show Hid ((L.take k).length = k) from by show _ = _; rw [List.length_take]; have := HM.out; omega)
  clear hp hX hc
  go_wp2_with (first | (go_at_call 7; refine (err_any _ _).mono ?_; rintro e w' ⟨rfl, rfl⟩))
  refine HP.out.mono ?_
  rintro e w2 ⟨rfl, hX2⟩
  have HX2 := (show Hid (Has w [] (stkA sb k (L.take k) true) w2) from hX2.fst)
  clear hX2 HX HP
  go_wp2_with (first
    | (go_at_call 12; refine (stover _ HX2.out).mono ?_; rintro e w3 ⟨rfl, hK3⟩; have HX3 := hid (HX2.out.keep0 hK3))
    | (go_at_call 13; refine (stdepth _ HX3.out).mono ?_; rw [HQL.out]; rintro e w4 ⟨rfl, hK4⟩; have HX4 := hid (HX3.out.keep0 hK4)))
  go_loopw [9] (fun i wr => ∃ (z : Int) (t : Nat), i = .int .i64 z ∧ z = (t : Int) - 1 ∧ t ≤ k ∧ Hid (Has w [] (stkA sb k (L.take t) true) wr)) (fun i _ => (intOf i + 1).toNat)
  case atStart => exact ⟨(k : Int) - 1, k, by go_num, rfl, by omega, HX4.out⟩
  case round =>
    obtain ⟨z, t, rfl, hz, ht, HX5⟩ := hrel
    clear HX2 HX3 HX4 hK3 hK4
    rcases t with _ | t
    · have hd : decide (0 ≤ z) = false := decide_eq_false (by omega)
      clear hz
      have hX5 := HX5.out
      rw [List.take_zero] at hX5
      have HX6 := hid hX5
      clear HX5 hX5
      go_wp2_with fail
      refine (stpop_no _ HX6.out).mono ?_
      rintro e w7 ⟨rfl, hX7⟩
      have HX7 := hid hX7
      clear HX6 hX7
      go_wp2_with (first
        | (go_at_call 12; refine (stover _ HX7.out).mono ?_; rintro e w8 ⟨rfl, hK8⟩; have HX8 := hid (HX7.out.keep0 hK8))
        | (go_at_call 11; refine (stpush (B := emptyA) none 0 0 [] _ (HX8.out.more (Keep.refl [] _) (B := emptyA) (G := []) rfl (fun k hk => by cases hk)) (fun _ _ w' _ => IntsAt.nil _ _) rfl cap_nil (by omega)).mono ?_; rw [Nat.zero_min]; rintro e w9 ⟨rfl, hX9⟩; have hK9 := hX9.K)
        | (go_at_call 8; refine (awake16_any _).mono ?_; rintro e w15 ⟨rfl, hK15⟩))
      go_ret
      exact ⟨rfl, hK9.trans hK15⟩
    · obtain rfl : z = (t : Int) := by omega
      have hX5 := HX5.out
      have hA5 := HA.out.keep hX5.K (HA.out.off (by simp))
      obtain ⟨b, off, rfl, _, hcs⟩ := hA5.cells (by have := HM.out; omega)
      have HCS := (show Hid (∀ w', Keep [] wr w' → w'.cell? ⟨b, off + t, none⟩ = some (.int .i64 (L[t]?.getD 0))) from fun w' K => by
        obtain ⟨b', off', e, _, hcs⟩ := (hA5.keep K (hA5.off (by simp))).cells (by have := HM.out; omega)
        cases e
        exact hcs t (by have := HM.out; omega))
      rw [take_snoc L t (by have := HM.out; omega)] at hX5
      have HX6 := hid hX5
      clear HX5 hX5 hA5 hcs hz
      go_wp2_with fail
      refine (stpop_yes _ _ HX6.out).mono ?_
      rintro e w7 ⟨rfl, hX7⟩
      have hc : w7.cell? ⟨b, off + t, none⟩ = some (.int .i64 (L[t]?.getD 0)) := by
        obtain ⟨b', off', e, _, hcs⟩ := (HA.out.keep hX7.K (HA.out.off (by simp))).cells (by have := HM.out; omega)
        cases e
        exact hcs t (by have := HM.out; omega)
      have HX7 := hid hX7
      clear HX6 hX7
      generalize L[t]?.getD 0 = y at *
      go_wp2_with fail
      go_roundw
      case rel => exact ⟨(t : Int) - 1, t, by go_num, rfl, by omega, HX7.out⟩
      case measure => first | (simp [intOf]; omega) | simp [intOf]
set_option maxRecDepth 100000 in
set_option maxHeartbeats 6400000 in
theorem turns_all (n r k : Nat) (la : Option Addr) (m c : Nat) (L : List Int) (w : World) (_ : n < 256) (hr : (n : Int) % 50 = r) (hk : 1 + (r : Int) = k) (hk1 : 1 ≤ k) (_ : k ≤ 50) (hA : IntsAt w la L) (hm : L.length = m) (hc : capOk la m c) (_ : m ≤ 100) (h1 : m < k) :
    Calls Try.prog 4 #[.int .u8 n, .slice la m c] w fun e w' => e = .returned (.bool true) ∧ Keep [] w w' := by
  have HA := hid hA
  have HM := hid hm
  clear hA hm
  go_enter Try.func4, Try.ntmps4
  go_wp2_with fail
  refine (stnew_yes k _ hk1 (by omega)).mono ?_
  rintro e w1 ⟨sb, rfl, hX⟩
  have HX := (show Hid (Has w [] (stkA sb k [] false) w1) from hX)
  have d1 : decide (100 < (m : Int)) = false := decide_eq_false (by omega)
  have dkm : decide (k < m) = false := decide_eq_false (by omega)
  have hp := stpush (B := emptyA) la m c L w1 (hX.more (Keep.refl [] _) (B := emptyA) (G := []) rfl (fun k hk => by cases hk)) (fun _ _ w' h => HA.out.keep h.K (HA.out.off (by simp))) HM.out hc (by omega)
  rw [List.length_nil, Nat.sub_zero, List.nil_append, Bool.false_or, show decide (k < m) = false from decide_eq_false (by omega), show min m k = m by omega, show L.take k = L.take m from by rw [List.take_of_length_le (by rw [HM.out]; omega), List.take_of_length_le (by rw [HM.out]; exact Nat.le_refl _)]] at hp
  have HP := hid hp
  have HQL := (show Hid ((L.take m).length = m) from by show _ = _; rw [List.length_take]; have := HM.out; omega)
  clear hp hX hc
  go_wp2_with (first | (go_at_call 7; refine (err_any _ _).mono ?_; rintro e w' ⟨rfl, rfl⟩))
  refine HP.out.mono ?_
  rintro e w2 ⟨rfl, hX2⟩
  have HX2 := (show Hid (Has w [] (stkA sb k (L.take m) false) w2) from hX2.fst)
  clear hX2 HX HP
  go_wp2_with (first
    | (go_at_call 12; refine (stover _ HX2.out).mono ?_; rintro e w3 ⟨rfl, hK3⟩; have HX3 := hid (HX2.out.keep0 hK3))
    | (go_at_call 13; refine (stdepth _ HX3.out).mono ?_; rw [HQL.out]; rintro e w4 ⟨rfl, hK4⟩; have HX4 := hid (HX3.out.keep0 hK4)))
  go_loopw [9] (fun i wr => ∃ (z : Int) (t : Nat), i = .int .i64 z ∧ z = (t : Int) - 1 ∧ t ≤ m ∧ Hid (Has w [] (stkA sb k (L.take t) false) wr)) (fun i _ => (intOf i + 1).toNat)
  case atStart => exact ⟨(m : Int) - 1, m, by go_num, rfl, by omega, HX4.out⟩
  case round =>
    obtain ⟨z, t, rfl, hz, ht, HX5⟩ := hrel
    clear HX2 HX3 HX4 hK3 hK4
    rcases t with _ | t
    · have hd : decide (0 ≤ z) = false := decide_eq_false (by omega)
      clear hz
      have hX5 := HX5.out
      rw [List.take_zero] at hX5
      have HX6 := hid hX5
      clear HX5 hX5
      go_wp2_with fail
      refine (stpop_no _ HX6.out).mono ?_
      rintro e w7 ⟨rfl, hX7⟩
      have HX7 := hid hX7
      clear HX6 hX7
      go_wp2_with (first
        | (go_at_call 12; refine (stover _ HX7.out).mono ?_; rintro e w8 ⟨rfl, hK8⟩; have HX8 := hid (HX7.out.keep0 hK8))
        | (go_at_call 11; refine (stpush (B := emptyA) none 0 0 [] _ (HX8.out.more (Keep.refl [] _) (B := emptyA) (G := []) rfl (fun k hk => by cases hk)) (fun _ _ w' _ => IntsAt.nil _ _) rfl cap_nil (by omega)).mono ?_; rw [Nat.zero_min]; rintro e w9 ⟨rfl, hX9⟩; have hK9 := hX9.K)
        | (go_at_call 8; refine (awake16_any _).mono ?_; rintro e w15 ⟨rfl, hK15⟩))
      go_ret
      exact ⟨rfl, hK9.trans hK15⟩
    · obtain rfl : z = (t : Int) := by omega
      have hX5 := HX5.out
      have hA5 := HA.out.keep hX5.K (HA.out.off (by simp))
      obtain ⟨b, off, rfl, _, hcs⟩ := hA5.cells (by have := HM.out; omega)
      have HCS := (show Hid (∀ w', Keep [] wr w' → w'.cell? ⟨b, off + t, none⟩ = some (.int .i64 (L[t]?.getD 0))) from fun w' K => by
        obtain ⟨b', off', e, _, hcs⟩ := (hA5.keep K (hA5.off (by simp))).cells (by have := HM.out; omega)
        cases e
        exact hcs t (by have := HM.out; omega))
      rw [take_snoc L t (by have := HM.out; omega)] at hX5
      have HX6 := hid hX5
      clear HX5 hX5 hA5 hcs hz
      go_wp2_with fail
      refine (stpop_yes _ _ HX6.out).mono ?_
      rintro e w7 ⟨rfl, hX7⟩
      have hc : w7.cell? ⟨b, off + t, none⟩ = some (.int .i64 (L[t]?.getD 0)) := by
        obtain ⟨b', off', e, _, hcs⟩ := (HA.out.keep hX7.K (HA.out.off (by simp))).cells (by have := HM.out; omega)
        cases e
        exact hcs t (by have := HM.out; omega)
      have HX7 := hid hX7
      clear HX6 hX7
      generalize L[t]?.getD 0 = y at *
      go_wp2_with fail
      go_roundw
      case rel => exact ⟨(t : Int) - 1, t, by go_num, rfl, by omega, HX7.out⟩
      case measure => first | (simp [intOf]; omega) | simp [intOf]
set_option maxRecDepth 100000 in
set_option maxHeartbeats 6400000 in
theorem turns_even (n r k : Nat) (la : Option Addr) (c : Nat) (L : List Int) (w : World) (_ : n < 256) (hr : (n : Int) % 50 = r) (hk : 1 + (r : Int) = k) (hk1 : 1 ≤ k) (_ : k ≤ 50) (hA : IntsAt w la L) (hm : L.length = k) (hc : capOk la k c) (_ : k ≤ 100) :
    Calls Try.prog 4 #[.int .u8 n, .slice la k c] w fun e w' => e = .returned (.bool true) ∧ Keep [] w w' := by
  have HA := hid hA
  have HM := hid hm
  clear hA hm
  go_enter Try.func4, Try.ntmps4
  go_wp2_with fail
  refine (stnew_yes k _ hk1 (by omega)).mono ?_
  rintro e w1 ⟨sb, rfl, hX⟩
  have HX := (show Hid (Has w [] (stkA sb k [] false) w1) from hX)
  have d1 : decide (100 < (k : Int)) = false := decide_eq_false (by omega)
  have hp := stpush (B := emptyA) la k c L w1 (hX.more (Keep.refl [] _) (B := emptyA) (G := []) rfl (fun k hk => by cases hk)) (fun _ _ w' h => HA.out.keep h.K (HA.out.off (by simp))) HM.out hc (by omega)
  rw [List.length_nil, Nat.sub_zero, List.nil_append, Bool.false_or, show decide (k < k) = false from decide_eq_false (by omega), show min k k = k by omega, show L.take k = L.take k from rfl] at hp
  have HP := hid hp
  have HQL := (show Hid ((L.take k).length = k) from by show _ = _; rw [List.length_take]; have := HM.out; omega)
  clear hp hX hc
  go_wp2_with (first | (go_at_call 7; refine (err_any _ _).mono ?_; rintro e w' ⟨rfl, rfl⟩))
  refine HP.out.mono ?_
  rintro e w2 ⟨rfl, hX2⟩
  have HX2 := (show Hid (Has w [] (stkA sb k (L.take k) false) w2) from hX2.fst)
  clear hX2 HX HP
  go_wp2_with (first
    | (go_at_call 12; refine (stover _ HX2.out).mono ?_; rintro e w3 ⟨rfl, hK3⟩; have HX3 := hid (HX2.out.keep0 hK3))
    | (go_at_call 13; refine (stdepth _ HX3.out).mono ?_; rw [HQL.out]; rintro e w4 ⟨rfl, hK4⟩; have HX4 := hid (HX3.out.keep0 hK4)))
  go_loopw [9] (fun i wr => ∃ (z : Int) (t : Nat), i = .int .i64 z ∧ z = (t : Int) - 1 ∧ t ≤ k ∧ Hid (Has w [] (stkA sb k (L.take t) false) wr)) (fun i _ => (intOf i + 1).toNat)
  case atStart => exact ⟨(k : Int) - 1, k, by go_num, rfl, by omega, HX4.out⟩
  case round =>
    obtain ⟨z, t, rfl, hz, ht, HX5⟩ := hrel
    clear HX2 HX3 HX4 hK3 hK4
    rcases t with _ | t
    · have hd : decide (0 ≤ z) = false := decide_eq_false (by omega)
      clear hz
      have hX5 := HX5.out
      rw [List.take_zero] at hX5
      have HX6 := hid hX5
      clear HX5 hX5
      go_wp2_with fail
      refine (stpop_no _ HX6.out).mono ?_
      rintro e w7 ⟨rfl, hX7⟩
      have HX7 := hid hX7
      clear HX6 hX7
      go_wp2_with (first
        | (go_at_call 12; refine (stover _ HX7.out).mono ?_; rintro e w8 ⟨rfl, hK8⟩; have HX8 := hid (HX7.out.keep0 hK8))
        | (go_at_call 11; refine (stpush (B := emptyA) none 0 0 [] _ (HX8.out.more (Keep.refl [] _) (B := emptyA) (G := []) rfl (fun k hk => by cases hk)) (fun _ _ w' _ => IntsAt.nil _ _) rfl cap_nil (by omega)).mono ?_; rw [Nat.zero_min]; rintro e w9 ⟨rfl, hX9⟩; have hK9 := hX9.K)
        | (go_at_call 8; refine (awake16_any _).mono ?_; rintro e w15 ⟨rfl, hK15⟩))
      go_ret
      exact ⟨rfl, hK9.trans hK15⟩
    · obtain rfl : z = (t : Int) := by omega
      have hX5 := HX5.out
      have hA5 := HA.out.keep hX5.K (HA.out.off (by simp))
      obtain ⟨b, off, rfl, _, hcs⟩ := hA5.cells (by have := HM.out; omega)
      have HCS := (show Hid (∀ w', Keep [] wr w' → w'.cell? ⟨b, off + t, none⟩ = some (.int .i64 (L[t]?.getD 0))) from fun w' K => by
        obtain ⟨b', off', e, _, hcs⟩ := (hA5.keep K (hA5.off (by simp))).cells (by have := HM.out; omega)
        cases e
        exact hcs t (by have := HM.out; omega))
      rw [take_snoc L t (by have := HM.out; omega)] at hX5
      have HX6 := hid hX5
      clear HX5 hX5 hA5 hcs hz
      go_wp2_with fail
      refine (stpop_yes _ _ HX6.out).mono ?_
      rintro e w7 ⟨rfl, hX7⟩
      have hc : w7.cell? ⟨b, off + t, none⟩ = some (.int .i64 (L[t]?.getD 0)) := by
        obtain ⟨b', off', e, _, hcs⟩ := (HA.out.keep hX7.K (HA.out.off (by simp))).cells (by have := HM.out; omega)
        cases e
        exact hcs t (by have := HM.out; omega)
      have HX7 := hid hX7
      clear HX6 hX7
      generalize L[t]?.getD 0 = y at *
      go_wp2_with fail
      go_roundw
      case rel => exact ⟨(t : Int) - 1, t, by go_num, rfl, by omega, HX7.out⟩
      case measure => first | (simp [intOf]; omega) | simp [intOf]
theorem turns_many (n r k : Nat) (la : Option Addr) (m c : Nat) (w : World) (_ : n < 256) (hr : (n : Int) % 50 = r) (hk : 1 + (r : Int) = k) (hk1 : 1 ≤ k) (_ : k ≤ 50) (hm : 100 < m) :
    Calls Try.prog 4 #[.int .u8 n, .slice la m c] w fun e w' => e = .returned (.bool true) ∧ Keep [] w w' := by
  have d1 : decide (100 < (m : Int)) = true := decide_eq_true (by omega)
  clear hm
  go_enter Try.func4, Try.ntmps4
  go_wp2_with fail
  refine (stnew_yes k _ hk1 (by omega)).mono ?_
  rintro e w1 ⟨sb, rfl, hX⟩
  have HX := (show Hid (Has w [] (stkA sb k [] false) w1) from hX)
  clear hX
  go_wp2_with (first
    | (go_at_call 7; refine (err_any _ _).mono ?_; rintro e w' ⟨rfl, rfl⟩)
    | (go_at_call 8; refine (awake16_any _).mono ?_; rintro e w15 ⟨rfl, hK15⟩))
  go_ret
  exact ⟨rfl, HX.out.K.trans hK15⟩
theorem walk (a0 : Int) (o1 : Option Addr) (len1 cap1 : Nat) (A1 : List Int) (w0 : (Lit.int .u8 a0).wf = true) (w1 : len1 ≤ 9223372036854775807) (w : World) (u1 : ListAt w o1 .i64 len1 A1 ∧ capOk o1 len1 cap1) :
    Calls Try.prog 4 #[.int .u8 a0, .slice o1 len1 cap1] w fun e w' => e = .returned (.bool true) ∧ Keep [] w w' := by
  have h0 := bounds_u8 w0
  obtain ⟨n, rfl⟩ : ∃ n : Nat, a0 = n := ⟨a0.toNat, by omega⟩
  obtain ⟨r, hr⟩ : ∃ r : Nat, (n : Int) % 50 = r := ⟨((n : Int) % 50).toNat, by omega⟩
  obtain ⟨k, hk⟩ : ∃ k : Nat, 1 + (r : Int) = k := ⟨1 + r, by omega⟩
  by_cases h100 : 100 < len1
  · exact turns_many n r k o1 len1 cap1 w (by omega) hr hk (by omega) (by omega) h100
  · by_cases h : k < len1
    · exact turns_over n r k o1 len1 cap1 A1 w (by omega) hr hk (by omega) (by omega) u1.1.ints u1.1.len u1.2 (by omega) h
    · by_cases h2 : len1 < k
      · exact turns_all n r k o1 len1 cap1 A1 w (by omega) hr hk (by omega) (by omega) u1.1.ints u1.1.len u1.2 (by omega) h2
      · obtain rfl : len1 = k := by omega
        exact turns_even n r len1 o1 cap1 A1 w (by omega) hr hk (by omega) (by omega) u1.1.ints u1.1.len u1.2 (by omega)
end Go.Proofs.Ytjlfjbdkffppeaa.stackTurns
