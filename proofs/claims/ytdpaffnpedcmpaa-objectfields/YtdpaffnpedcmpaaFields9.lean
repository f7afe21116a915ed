/-
  ObjectFields: a field is what it was put to, whatever is made, and put, beside it; new ones are 0.
-/
import Derived.Test.YtdpaffnpedcmpaaAwake9
namespace Go.Proofs.Ytdpaffnpedcmpaa.objectFields
open Go.RowKit

theorem fieldT_yes {kd : List PK} {ws : List Int} {k c l : Int} {a m j : Nat} {f : Bool} (h : At kd ws a a m k c l f) (hw : WF kd) (hl : ws.length = 64 * kd.length) (hj : (j : Int) < l) (hm : l + 1 ≤ m) : FieldT kd ws a j (ws[a + 1 + j]?.getD 0) 0 := by
  have := h.facts hw
  exact .yes (a + 1 + j) (.yes a m j k c l f h rfl hj hm) (by omega)
theorem putT_yes {kd : List PK} {ws : List Int} {k c l : Int} {a m j : Nat} {f : Bool} (x : Int) (h : At kd ws a a m k c l f) (hw : WF kd) (hl : ws.length = 64 * kd.length) (hj : (j : Int) < l) (hm : l + 1 ≤ m) : PutT kd ws a j x 0 (ws.set (a + 1 + j) x) := by
  have := h.facts hw
  exact .yes (a + 1 + j) (.yes a m j k c l f h rfl hj hm) (by omega)
theorem at_set {kd : List PK} {ws : List Int} {k c l x : Int} {a m i : Nat} {f : Bool} (h : At kd ws a a m k c l f) (hi : i ≠ a) : At kd (ws.set i x) a a m k c l f := by
  obtain ⟨h1, h2, h3⟩ := h
  exact ⟨h1, h2, by rw [set_get_other _ _ _ _ hi]; exact h3⟩
theorem pages4 (k : Nat) (h : k ≤ 200) : pagesI ((k : Int) + 1) ≤ 4 := by
  unfold pagesI; split <;> (try split) <;> omega

theorem fields_facts (k p q : Nat) (hk : k ≤ 200) (hp : p < k) (hq : q < k) (x y : Int) : ∃ (a b : Nat) (kd1 kd2 : List PK) (ws1 ws2 ws3 ws4 : List Int),
    MakeT (freshK 20) (zeros (64 * 20)) [] 3 0 k false a 0 ws1 kd1 ∧ MakeT kd1 ws1 [] 3 0 k false b 0 ws2 kd2 ∧ a ≠ b ∧ PutT kd2 ws2 a p x 0 ws3 ∧ PutT kd2 ws3 b q y 0 ws4 ∧
      (∀ m : Nat, m < k → FieldT kd2 ws4 a m (if m = p then x else 0) 0 ∧ FieldT kd2 ws4 b m (if m = q then y else 0) 0) ∧ FieldT kd2 ws4 a k 0 1 ∧ PutT kd2 ws4 a (-1) 5 1 ws4 := by
  have f0 := Fine.fresh 20 (by omega) (by omega)
  have hm := may_data k (by omega) (by omega)
  obtain ⟨a, s, kd1, m1, r1, e1, g1⟩ := make_from (kd := freshK 20) (ds := []) (s := 1) (K := 4) (zeros (64 * 20)) f0.wf hm (.other (by omega)) (pages4 k hk) (by omega) (by rw [freshK_length]; omega) (FreeFrom.fresh 20 (by omega))
  obtain ⟨f1, l1⟩ := m1.fine f0
  rw [freshK_length] at l1
  have A1 := MakeT.at f0.wf f0.len hm r1 e1
  obtain ⟨b, t, kd2, m2, r2, e2, g2⟩ := make_from (ds := []) (s := 5) (K := 4) _ f1.wf hm (.other (by omega)) (pages4 k hk) (by omega) (by rw [l1]; omega) g1
  obtain ⟨f2, l2⟩ := m2.fine f1
  have A2 := MakeT.at f1.wf f1.len hm r2 e2
  obtain ⟨A1', hd⟩ := A1.made (x := putH 3 0 k false) f1.wf f1.len r2 e2
  have hg := room_ge ((k : Int) + 1) (by omega) (by omega)
  obtain rfl : t = s := by rw [e1] at e2; omega
  obtain ⟨_, c1, c2, c3, c4, c5⟩ := A1'.facts f2.wf
  obtain ⟨_, d1, d2, d3, d4, d5⟩ := A2.facts f2.wf
  have hz1 : ∀ m : Nat, m < k → ((fill0 ((fill0 (zeros (64 * 20)) a t).set a (putH 3 0 k false)) b t).set b (putH 3 0 k false))[a + 1 + m]?.getD 0 = 0 := fun m hm => by
    rw [set_get_other _ _ _ _ (by omega), fill0_get _ _ _ _ (by rw [f1.len, ← l2]; omega), if_neg (by omega), set_get_other _ _ _ _ (by omega), fill0_get _ _ _ _ (by rw [zeros_length]; omega), if_pos (by omega)]
  have hz2 : ∀ m : Nat, m < k → ((fill0 ((fill0 (zeros (64 * 20)) a t).set a (putH 3 0 k false)) b t).set b (putH 3 0 k false))[b + 1 + m]?.getD 0 = 0 := fun m hm => by
    rw [set_get_other _ _ _ _ (by omega), fill0_get _ _ _ _ (by rw [f1.len, ← l2]; omega), if_pos (by omega)]
  generalize (fill0 ((fill0 (zeros (64 * 20)) a t).set a (putH 3 0 k false)) b t).set b (putH 3 0 k false) = ws2 at *
  have hl := f2.len
  have A13 := at_set (x := y) (i := b + 1 + q) (at_set (x := x) (i := a + 1 + p) A1' (by omega)) (by omega)
  have A23 := at_set (x := x) (i := a + 1 + p) A2 (by omega)
  have A24 := at_set (x := y) (i := b + 1 + q) A23 (by omega)
  have hl3 : ((ws2.set (a + 1 + p) x).set (b + 1 + q) y).length = 64 * kd2.length := by rw [List.length_set, List.length_set]; exact hl
  refine ⟨a, b, kd1, kd2, _, ws2, ws2.set (a + 1 + p) x, (ws2.set (a + 1 + p) x).set (b + 1 + q) y, m1, m2, by omega, putT_yes x A1' f2.wf hl (by omega) (by omega), putT_yes y A23 f2.wf (by rw [List.length_set]; exact hl) (by omega) (by omega), fun m hm => ⟨?_, ?_⟩, .no 1 (.arg a t 3 0 k false A13 (by omega)) (.inl rfl), .no 1 (.arg a t 3 0 k false A13 (by omega)) (.inl rfl)⟩
  · have := fieldT_yes A13 f2.wf hl3 (j := m) (by omega) (by omega)
    rw [set_get_other _ _ _ _ (by omega)] at this
    by_cases e : m = p
    · subst e; rw [set_get_same _ _ _ (by omega)] at this; rw [if_pos rfl]; exact this
    · rw [set_get_other _ _ _ _ (by omega), hz1 m hm] at this; rw [if_neg e]; exact this
  · have := fieldT_yes A24 f2.wf hl3 (j := m) (by omega) (by omega)
    by_cases e : m = q
    · subst e; rw [set_get_same _ _ _ (by rw [List.length_set]; omega)] at this; rw [if_pos rfl]; exact this
    · rw [set_get_other _ _ _ _ (by omega), set_get_other _ _ _ _ (by omega), hz2 m hm] at this; rw [if_neg e]; exact this

set_option maxRecDepth 100000 in
set_option maxHeartbeats 6400000 in
theorem fields_any (n i j : Nat) (x y : Int) (w : World) (hn : n < 256) (hi : i < 256) (hj : j < 256) (hx : inI x) (hy : inI y) :
    Calls Try.prog 3 #[.int .u8 n, .int .u8 i, .int .u8 j, .int .i64 x, .int .i64 y] w fun e w' => e = .returned (.bool true) ∧ Keep [] w w' := by
  obtain ⟨r, hr⟩ : ∃ r : Nat, n % 200 = r := ⟨_, rfl⟩
  obtain ⟨k, hk⟩ : ∃ k : Nat, 1 + r = k := ⟨_, rfl⟩
  obtain ⟨p, hp⟩ : ∃ p : Nat, i % k = p := ⟨_, rfl⟩
  obtain ⟨q, hq⟩ : ∃ q : Nat, j % k = q := ⟨_, rfl⟩
  have hk2 : k ≤ 200 := by omega
  have hpk : p < k := by rw [← hp]; exact Nat.mod_lt _ (by omega)
  have hqk : q < k := by rw [← hq]; exact Nat.mod_lt _ (by omega)
  obtain ⟨a, b, kd1, kd2, ws1, ws2, ws3, ws4, M1, M2, hab, P1, P2, hF, F1, P3⟩ := fields_facts k p q hk2 hpk hqk x y
  have HM1 := (show Hid (MakeT (freshK 20) (zeros (64 * 20)) [] 3 0 k false a 0 ws1 kd1) from M1)
  have HM2 := (show Hid (MakeT kd1 ws1 [] 3 0 k false b 0 ws2 kd2) from M2)
  have HP1 := (show Hid (PutT kd2 ws2 a p x 0 ws3) from P1)
  have HP2 := (show Hid (PutT kd2 ws3 b q y 0 ws4) from P2)
  have HP3 := (show Hid (PutT kd2 ws4 a (-1) 5 1 ws4) from P3)
  have HF := (show Hid (∀ m : Nat, m < k → FieldT kd2 ws4 a m (if m = p then x else 0) 0 ∧ FieldT kd2 ws4 b m (if m = q then y else 0) 0) from hF)
  have HF1 := (show Hid (FieldT kd2 ws4 a k 0 1) from F1)
  have hri : (n : Int) % 200 = r := by omega
  have hki : (1 : Int) + r = k := by omega
  have hpi : (i : Int) % (k : Int) = p := by rw [← hp]; rfl
  have hqi : (j : Int) % (k : Int) = q := by rw [← hq]; rfl
  have hpt : (i : Int).tmod (k : Int) = p := by rw [Int.tmod_eq_emod_of_nonneg (by omega)]; exact hpi
  have hqt : (j : Int).tmod (k : Int) = q := by rw [Int.tmod_eq_emod_of_nonneg (by omega)]; exact hqi
  have hk0 : (k : Int) ≠ 0 := by omega
  have habi : ((a : Int) == b) = false := by simpa using fun e : (a : Int) = b => hab (by omega)
  clear M1 M2 P1 P2 P3 hF F1 hr hk hp hq hab
  go_enter Try.func3, Try.ntmps3
  go_wp2_with (first | (go_at_call 7; refine (onew_has 20 _ (by omega) (by omega)).mono ?_; rintro e w1 ⟨hb, rfl, hH⟩; have HH := (show Hid (Has w [] (heapA hb (zeros (64 * 20)) (freshK 20) []) w1) from hH); clear hH) | (go_at_call 8; refine (owhole _ HH.out).mono ?_; rintro e w' ⟨rfl, rfl⟩) | (go_at_call 9; refine (err_any _ _).mono ?_; rintro e w' ⟨rfl, rfl⟩))
  refine (omake 3 0 k a 0 false ws1 kd1 _ HH.out HM1.out).mono ?_
  rintro e w2 ⟨rfl, hH2⟩
  have HH2 := (show Hid (Has w [] (heapA hb ws1 kd1 []) w2) from hH2)
  clear hH2 HH
  go_wp2_with (first | (go_at_call 9; refine (err_any _ _).mono ?_; rintro e w' ⟨rfl, rfl⟩))
  refine (omake 3 0 k b 0 false ws2 kd2 _ HH2.out HM2.out).mono ?_
  rintro e w3 ⟨rfl, hH3⟩
  have HH3 := (show Hid (Has w [] (heapA hb ws2 kd2 []) w3) from hH3)
  clear hH3 HH2
  go_wp2_with (first | (go_at_call 9; refine (err_any _ _).mono ?_; rintro e w' ⟨rfl, rfl⟩))
  go_quiet (fail)
  have HH4 := (show Hid (Has w [] (heapA hb ws2 kd2 []) (w3.drewN nq)) from HH3.out.keep0 (Keep.drewN [] w3 nq))
  generalize w3.drewN nq = w4 at *
  clear HH3
  go_wp2_with fail
  refine (oput a p x 0 ws3 _ HH4.out HP1.out hx).mono ?_
  rintro e w5 ⟨rfl, hH5⟩
  have HH5 := (show Hid (Has w [] (heapA hb ws3 kd2 []) w5) from hH5)
  clear hH5 HH4
  go_wp2_with fail
  refine (oput b q y 0 ws4 _ HH5.out HP2.out hy).mono ?_
  rintro e w6 ⟨rfl, hH6⟩
  have HH6 := (show Hid (Has w [] (heapA hb ws4 kd2 []) w6) from hH6)
  clear hH6 HH5
  go_wp2_with fail
  go_loopw [20] (fun v wr => ∃ m : Nat, v = .int .i64 m ∧ m ≤ k ∧ Hid (Has w [] (heapA hb ws4 kd2 []) wr)) (fun v _ => k - (intOf v).toNat)
  case atStart => exact ⟨0, rfl, by omega, HH6⟩
  case round =>
    obtain ⟨m, rfl, hm, HH7⟩ := hrel
    by_cases hlt : m < k
    · obtain ⟨G1, G2⟩ := HF.out m hlt
      obtain ⟨u, hu⟩ : ∃ u, (if m = p then x else 0) = u := ⟨_, rfl⟩
      obtain ⟨v, hv⟩ : ∃ v, (if m = q then y else 0) = v := ⟨_, rfl⟩
      rw [hu] at G1
      rw [hv] at G2
      have HG1 := (show Hid (FieldT kd2 ws4 a m u 0) from G1)
      have HG2 := (show Hid (FieldT kd2 ws4 b m v 0) from G2)
      clear G1 G2
      go_wp2_with fail
      refine (ofield a m u 0 _ HH7.out HG1.out).mono ?_
      rintro e w8 ⟨rfl, hK8⟩
      go_wp2_with fail
      refine (ofield b m v 0 _ (HH7.out.keep0 hK8) HG2.out).mono ?_
      rintro e w9 ⟨rfl, hK9⟩
      have HH9 := (show Hid (Has w [] (heapA hb ws4 kd2 []) w9) from (HH7.out.keep0 hK8).keep0 hK9)
      clear hK8 hK9 HH7 HG1 HG2
      by_cases ep : m = p
      · by_cases eq : m = q
        · rw [if_pos ep] at hu
          rw [if_pos eq] at hv
          subst ep eq hu hv
          go_wp2_with (first | (go_at_call 9; refine (err_any _ _).mono ?_; rintro e w' ⟨rfl, rfl⟩))
          go_roundw
          case rel => exact ⟨m + 1, by go_num, by omega, HH9⟩
          case measure => simp [intOf]; omega
        · rw [if_pos ep] at hu
          rw [if_neg eq] at hv
          subst ep hu hv
          have d1 : ((m : Int) == q) = false := by simpa using fun e : (m : Int) = q => eq (by omega)
          go_wp2_with (first | (go_at_call 9; refine (err_any _ _).mono ?_; rintro e w' ⟨rfl, rfl⟩))
          go_roundw
          case rel => exact ⟨m + 1, by go_num, by omega, HH9⟩
          case measure => simp [intOf]; omega
      · have d2 : ((m : Int) == p) = false := by simpa using fun e : (m : Int) = p => ep (by omega)
        by_cases eq : m = q
        · rw [if_neg ep] at hu
          rw [if_pos eq] at hv
          subst eq hu hv
          go_wp2_with (first | (go_at_call 9; refine (err_any _ _).mono ?_; rintro e w' ⟨rfl, rfl⟩))
          go_roundw
          case rel => exact ⟨m + 1, by go_num, by omega, HH9⟩
          case measure => simp [intOf]; omega
        · rw [if_neg ep] at hu
          rw [if_neg eq] at hv
          subst hu hv
          have d1 : ((m : Int) == q) = false := by simpa using fun e : (m : Int) = q => eq (by omega)
          go_wp2_with (first | (go_at_call 9; refine (err_any _ _).mono ?_; rintro e w' ⟨rfl, rfl⟩))
          go_roundw
          case rel => exact ⟨m + 1, by go_num, by omega, HH9⟩
          case measure => simp [intOf]; omega
    · obtain rfl : m = k := by omega
      go_wp2_with fail
      refine (ofield a m 0 1 _ HH7.out HF1.out).mono ?_
      rintro e w8 ⟨rfl, hK8⟩
      go_wp2_with fail
      refine (oput a (-1) 5 1 ws4 _ (HH7.out.keep0 hK8) HP3.out (by unfold inI; omega)).mono ?_
      rintro e w9 ⟨rfl, hH9⟩
      have hKK := hH9.K
      clear hH9 HH7 hK8
      go_wp2_with (first | (go_at_call 9; refine (err_any _ _).mono ?_; rintro e w' ⟨rfl, rfl⟩) | (go_at_call 13; refine (ohead_nil 64 _).mono ?_; rintro e wa ⟨rfl, hKa⟩) | (go_at_call 10; refine (omake_nil 3 0 0 false _).mono ?_; rintro e wb ⟨rfl, hKb⟩) | (go_at_call 14; refine (oobjects_nil _).mono ?_; rintro e w' ⟨rfl, rfl⟩) | (go_at_call 15; refine (orefs_nil 64 _).mono ?_; rintro e wc ⟨rfl, hKc⟩) | (go_at_call 16; refine (awake9_any _).mono ?_; rintro e wd ⟨rfl, hKd⟩))
      go_ret
      exact ⟨rfl, (((((hKK.trans hKa).trans (Keep.alloc [] _ _)).trans hKb).trans hKc).trans hKd)⟩
theorem walk (a0 a1 a2 a3 a4 : Int) (w0 : (Lit.int .u8 a0).wf = true) (w1 : (Lit.int .u8 a1).wf = true) (w2 : (Lit.int .u8 a2).wf = true) (w3 : (Lit.int .i64 a3).wf = true) (w4 : (Lit.int .i64 a4).wf = true) (w : World) :
    Calls Try.prog 3 #[.int .u8 a0, .int .u8 a1, .int .u8 a2, .int .i64 a3, .int .i64 a4] w fun e w' => e = .returned (.bool true) ∧ Keep [] w w' := by
  have h0 := bounds_u8 w0
  have h1 := bounds_u8 w1
  have h2 := bounds_u8 w2
  have h3 := bounds_i64 w3
  have h4 := bounds_i64 w4
  obtain ⟨n, rfl⟩ := Int.eq_ofNat_of_zero_le h0.1
  obtain ⟨i, rfl⟩ := Int.eq_ofNat_of_zero_le h1.1
  obtain ⟨j, rfl⟩ := Int.eq_ofNat_of_zero_le h2.1
  exact fields_any n i j a3 a4 w (by omega) (by omega) (by omega) (by unfold inI; omega) (by unfold inI; omega)

end Go.Proofs.Ytdpaffnpedcmpaa.objectFields
