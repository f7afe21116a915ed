/-
  ObjectRefuses: heads that may not be, classes that there are not, or of other fields, make nothing; addresses within one are none.
-/
import Derived.Test.YtdpaffnpedcmpaaAwake9
namespace Go.Proofs.Ytdpaffnpedcmpaa.objectRefuses
open Go.RowKit

theorem add_facts : addN [] 3 [1] = 1 ∧ addE [] 3 [1] = 0 ∧ addR [] 3 [1] = [((3 : Int), [(1 : Int)])] := by decide +kernel
theorem may_plain3 : mayH 1 1 3 false = true := by decide
theorem block4 : blockI 4 = (4 : Nat) := by decide
theorem not_at {kd : List PK} (hf : ∀ x, findN kd x = if 64 ≤ x ∧ x < 64 + 4 then some (64, 4) else none) (a : Int) (h : a ≠ 64) : NotAt kd a := by
  intro s n e e2
  unfold findI at e
  split at e
  · cases e
  · rw [hf] at e
    split at e
    · cases e; omega
    · cases e
theorem refuses_facts : ∃ (kd : List PK) (ws : List Int), MakeT (freshK 40) (zeros (64 * 40)) [(3, [1])] 1 1 3 false 64 0 ws kd ∧ (∀ a : Int, a ≠ 64 → NotAt kd a) := by
  have hA : AllocR (freshK 40) (3 + 1) (some (64, (freshK 40).set 1 (.small 1 ((offs (roomOf 1)).set 0 true)))) := fresh_small 40 1 4 (by omega) rfl
  obtain ⟨b, hb, h1, h2, h3, h4, h5, h6, h7⟩ := hA.spec (freshK_wf 40 (by omega) (by omega))
  obtain rfl : b = 4 := by rw [show (3 : Int) + 1 = 4 by omega, block4] at hb; omega
  exact ⟨_, _, .yes 64 4 _ may_plain3 rfl (.yes 0 [1] rfl rfl rfl) hA block4, fun a ha => not_at (fun x => by rw [h7, freshK_find 40 x (by omega)]) a ha⟩

set_option maxRecDepth 100000 in
set_option maxHeartbeats 6400000 in
theorem refuses_any (n : Nat) (odd : Int) (w : World) (hn : n < 256) (ho : inI odd) :
    Calls Try.prog 6 #[.int .u8 n, .int .i64 odd] w fun e w' => e = .returned (.bool true) ∧ Keep [] w w' := by
  obtain ⟨r, hr⟩ : ∃ r : Nat, n % 3 = r := ⟨_, rfl⟩
  have hri : (n : Int) % 3 = r := by omega
  have hr3 : r < 3 := by omega
  obtain ⟨kd, ws, M, hN⟩ := refuses_facts
  have HA := (show Hid (addN [] 3 [1] = 1 ∧ addE [] 3 [1] = 0 ∧ addR [] 3 [1] = [((3 : Int), [(1 : Int)])]) from add_facts)
  have HM := (show Hid (MakeT (freshK 40) (zeros (64 * 40)) [(3, [1])] 1 1 3 false 64 0 ws kd) from M)
  have HM1 := (show Hid (MakeT (freshK 40) (zeros (64 * 40)) [(3, [1])] 0 0 0 false 0 1 (zeros (64 * 40)) (freshK 40)) from .arg rfl)
  have HM2 := (show Hid (MakeT (freshK 40) (zeros (64 * 40)) [(3, [1])] 3 0 1 true 0 1 (zeros (64 * 40)) (freshK 40)) from .arg rfl)
  have HM3 := (show Hid (MakeT (freshK 40) (zeros (64 * 40)) [(3, [1])] 1 2 3 false 0 2 (zeros (64 * 40)) (freshK 40)) from .fits 2 rfl rfl (.none rfl (.inr (by decide))) (by omega))
  have HM4 := (show Hid (MakeT (freshK 40) (zeros (64 * 40)) [(3, [1])] 1 1 2 false 0 1 (zeros (64 * 40)) (freshK 40)) from .fits 1 rfl rfl (.arg 0 3 [1] rfl rfl rfl (by omega)) (by omega))
  have HE := (show Hid ((eachK (freshK 40)).length = 0) from by show _ = _; rw [each_fresh 40 (by omega)]; rfl)
  obtain ⟨o1, ho1⟩ : ∃ o1 : Int, (if odd = 64 then 0 else odd) = o1 := ⟨_, rfl⟩
  have hno : NotAt kd o1 := hN o1 (by rw [← ho1]; split <;> omega)
  have HN2 := (show Hid (NotAt kd o1) from hno)
  obtain ⟨p, hp⟩ : ∃ p : Int, (65 : Int) + r = p := ⟨_, rfl⟩
  have HN1 := (show Hid (NotAt kd p) from hN _ (by omega))
  clear M hN hr hno
  go_enter Try.func6, Try.ntmps6
  go_wp2_with (first | (go_at_call 7; refine (onew_has 40 _ (by omega) (by omega)).mono ?_; rintro e w1 ⟨hb, rfl, hH⟩; have HH := (show Hid (Has w [] (heapA hb (zeros (64 * 40)) (freshK 40) []) w1) from hH); obtain ⟨sb, tb, hraw⟩ := hH.raw; have HFI := (show Hid (Fine (zeros (64 * 40)) (freshK 40) []) from hH.fine); obtain ⟨c0, c1, _⟩ := hraw.cells; have HR := (show Hid (Has w [] (rawA hb sb tb (zeros (64 * 40)) (freshK 40) []) w1) from hraw); clear hH hraw) | (go_at_call 8; refine (owhole _ HH.out).mono ?_; rintro e w' ⟨rfl, rfl⟩) | (go_at_call 9; refine (err_any _ _).mono ?_; rintro e w' ⟨rfl, rfl⟩))
  refine (xof _ 3 (some ⟨w1.heap.size, 0, none⟩) 1 1 [1] (HR.out.keep0 (Keep.alloc [] _ _)) (IntsAt.single w1 3 1 (by omega) (by omega)) (by simp) rfl (by omega)).mono ?_
  rw [HA.out.1, HA.out.2.1, HA.out.2.2]
  rintro e w2 ⟨rfl, hR2⟩
  have HH2 := (show Hid (Has w [] (heapA hb (zeros (64 * 40)) (freshK 40) [(3, [1])]) w2) from hR2.heap (by have := HFI.out.add 3 [1]; rw [HA.out.2.2] at this; exact this))
  clear hR2 HR HH HFI
  go_wp2_with (first | (go_at_call 9; refine (err_any _ _).mono ?_; rintro e w' ⟨rfl, rfl⟩))
  refine (omake 0 0 0 0 1 false (zeros (64 * 40)) (freshK 40) _ HH2.out HM1.out).mono ?_
  rintro e w3 ⟨rfl, hH3⟩
  have HH3 := (show Hid (Has w [] (heapA hb (zeros (64 * 40)) (freshK 40) [(3, [1])]) w3) from hH3)
  clear hH3 HH2
  go_wp2_with (first | (go_at_call 9; refine (err_any _ _).mono ?_; rintro e w' ⟨rfl, rfl⟩))
  refine (omake 3 0 1 0 1 true (zeros (64 * 40)) (freshK 40) _ HH3.out HM2.out).mono ?_
  rintro e w4 ⟨rfl, hH4⟩
  have HH4 := (show Hid (Has w [] (heapA hb (zeros (64 * 40)) (freshK 40) [(3, [1])]) w4) from hH4)
  clear hH4 HH3
  go_wp2_with (first | (go_at_call 9; refine (err_any _ _).mono ?_; rintro e w' ⟨rfl, rfl⟩))
  refine (omake 1 2 3 0 2 false (zeros (64 * 40)) (freshK 40) _ HH4.out HM3.out).mono ?_
  rintro e w5 ⟨rfl, hH5⟩
  have HH5 := (show Hid (Has w [] (heapA hb (zeros (64 * 40)) (freshK 40) [(3, [1])]) w5) from hH5)
  clear hH5 HH4
  go_wp2_with (first | (go_at_call 9; refine (err_any _ _).mono ?_; rintro e w' ⟨rfl, rfl⟩))
  refine (omake 1 1 2 0 1 false (zeros (64 * 40)) (freshK 40) _ HH5.out HM4.out).mono ?_
  rintro e w6 ⟨rfl, hH6⟩
  have HH6 := (show Hid (Has w [] (heapA hb (zeros (64 * 40)) (freshK 40) [(3, [1])]) w6) from hH6)
  clear hH6 HH5
  go_wp2_with (first | (go_at_call 14; refine (oobjects _ HH6.out).mono ?_; rw [HE.out]; rintro e w7 ⟨va, vc, vs, rfl, _, _, hK7⟩; have HH7 := (show Hid (Has w [] (heapA hb (zeros (64 * 40)) (freshK 40) [(3, [1])]) w7) from HH6.out.keep0 hK7); clear hK7 HH6))
  refine (omake 1 1 3 64 0 false ws kd _ HH7.out HM.out).mono ?_
  rintro e w8 ⟨rfl, hH8⟩
  have HH8 := (show Hid (Has w [] (heapA hb ws kd [(3, [1])]) w8) from hH8)
  clear hH8 HH7
  go_wp2_with (first | (go_at_call 9; refine (err_any _ _).mono ?_; rintro e w' ⟨rfl, rfl⟩))
  refine (ohead p 0 0 0 2 false _ HH8.out (.no HN1.out)).mono ?_
  rintro e w9 ⟨rfl, hK9⟩
  have HH9 := (show Hid (Has w [] (heapA hb ws kd [(3, [1])]) (w9.alloc (.cells #[.int .i64 0, .int .i64 0, .int .i64 0, .bool false] 31))) from (HH8.out.keep0 hK9).keep0 (Keep.alloc [] _ _))
  clear hK9 HH8
  by_cases h64 : odd = 64
  · rw [if_pos h64] at ho1
    subst h64 ho1
    go_wp2_with (first | (go_at_call 9; refine (err_any _ _).mono ?_; rintro e w' ⟨rfl, rfl⟩))
    refine (ofield 0 0 0 2 _ HH9.out (.no 2 (.none HN2.out) (.inr rfl))).mono ?_
    rintro e wa ⟨rfl, hKa⟩
    have HHa := (show Hid (Has w [] (heapA hb ws kd [(3, [1])]) wa) from HH9.out.keep0 hKa)
    clear hKa HH9
    go_wp2_with fail
    refine (oput 0 0 1 2 ws _ HHa.out (.no 2 (.none HN2.out) (.inr rfl)) (by unfold inI; omega)).mono ?_
    rintro e wb ⟨rfl, hHb⟩
    have HHb := (show Hid (Has w [] (heapA hb ws kd [(3, [1])]) wb) from hHb)
    clear hHb HHa
    go_wp2_with fail
    refine (ofinal 0 2 ws _ HHb.out (.none HN2.out)).mono ?_
    rintro e wc ⟨rfl, hHc⟩
    have hKK := hHc.K
    clear hHc HHb
    go_wp2_with (first | (go_at_call 9; refine (err_any _ _).mono ?_; rintro e w' ⟨rfl, rfl⟩) | (go_at_call 7; refine (onew_no 0 _ (by omega)).mono ?_; rintro e wd ⟨rfl, hKd⟩) | (go_at_call 16; refine (awake9_any _).mono ?_; rintro e we ⟨rfl, hKe⟩))
    go_ret
    exact ⟨rfl, (hKK.trans hKd).trans hKe⟩
  · rw [if_neg h64] at ho1
    subst ho1
    have hd : (odd == 64) = false := by simpa using h64
    go_wp2_with (first | (go_at_call 9; refine (err_any _ _).mono ?_; rintro e w' ⟨rfl, rfl⟩))
    refine (ofield odd 0 0 2 _ HH9.out (.no 2 (.none HN2.out) (.inr rfl))).mono ?_
    rintro e wa ⟨rfl, hKa⟩
    have HHa := (show Hid (Has w [] (heapA hb ws kd [(3, [1])]) wa) from HH9.out.keep0 hKa)
    clear hKa HH9
    go_wp2_with fail
    refine (oput odd 0 1 2 ws _ HHa.out (.no 2 (.none HN2.out) (.inr rfl)) (by unfold inI; omega)).mono ?_
    rintro e wb ⟨rfl, hHb⟩
    have HHb := (show Hid (Has w [] (heapA hb ws kd [(3, [1])]) wb) from hHb)
    clear hHb HHa
    go_wp2_with fail
    refine (ofinal odd 2 ws _ HHb.out (.none HN2.out)).mono ?_
    rintro e wc ⟨rfl, hHc⟩
    have hKK := hHc.K
    clear hHc HHb
    go_wp2_with (first | (go_at_call 9; refine (err_any _ _).mono ?_; rintro e w' ⟨rfl, rfl⟩) | (go_at_call 7; refine (onew_no 0 _ (by omega)).mono ?_; rintro e wd ⟨rfl, hKd⟩) | (go_at_call 16; refine (awake9_any _).mono ?_; rintro e we ⟨rfl, hKe⟩))
    go_ret
    exact ⟨rfl, (hKK.trans hKd).trans hKe⟩

theorem walk (a0 a1 : Int) (w0 : (Lit.int .u8 a0).wf = true) (w1 : (Lit.int .i64 a1).wf = true) (w : World) :
    Calls Try.prog 6 #[.int .u8 a0, .int .i64 a1] w fun e w' => e = .returned (.bool true) ∧ Keep [] w w' := by
  have h0 := bounds_u8 w0
  have h1 := bounds_i64 w1
  obtain ⟨n, rfl⟩ := Int.eq_ofNat_of_zero_le h0.1
  exact refuses_any n a1 w (by omega) (by unfold inI; omega)
end Go.Proofs.Ytdpaffnpedcmpaa.objectRefuses
