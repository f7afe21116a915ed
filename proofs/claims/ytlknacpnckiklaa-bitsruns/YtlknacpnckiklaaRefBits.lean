/-
  What each call of the document's own Bits (a plain list of bools) does.
-/
import Derived.Test.YtlknacpnckiklaaBits
namespace Go.Proofs.Ytlknacpnckiklaa
open Go.RowKit

set_option maxHeartbeats 400000 in
theorem rhas_any (g n c : Nat) (i : Int) (xs : List Bool) (w : World) (hr : BRow w 4 g xs) (hn : xs.length = n) :
    Calls Try.prog 18 #[.slice (some ⟨g, 0, none⟩) n c, .int .i64 i] w fun e w' => e = .returned (.bool (hasR xs i)) ∧ w = w' := by
  by_cases h0 : 0 ≤ i
  · by_cases h1 : i < (n : Int)
    · obtain ⟨k, rfl⟩ := Int.eq_ofNat_of_zero_le h0
      rw [show hasR xs (k : Int) = xs[k]?.getD false from by unfold hasR; rw [isPl_true (by omega)]; simp]
      have hc := hr.cell (i := k) (by omega)
      have hg : decide ((k : Int) ≥ 0) = true := by rw [decide_eq_true_iff]; omega
      have hd : decide ((k : Int) < n) = true := by rw [decide_eq_true_iff]; exact h1
      generalize xs[k]?.getD false = x at *
      clear hr hn
      go_enter Try.func18, Try.ntmps18
      go_wp2
      go_ret
      exact ⟨rfl, rfl⟩
    · rw [show hasR xs i = false from by unfold hasR; rw [isPl_false (by omega)]; rfl]
      have hd : decide (i < (n : Int)) = false := by rw [decide_eq_false_iff_not]; exact h1
      clear hr hn
      go_enter Try.func18, Try.ntmps18
      go_wp2
      go_ret
      exact ⟨rfl, rfl⟩
  · rw [show hasR xs i = false from by unfold hasR; rw [isPl_false (by omega)]; rfl]
    have hd : decide (0 ≤ i) = false := by rw [decide_eq_false_iff_not]; exact h0
    clear hr hn
    go_enter Try.func18, Try.ntmps18
    go_wp2
    go_ret
    exact ⟨rfl, rfl⟩

set_option maxHeartbeats 400000 in
theorem rnext_any (g n c : Nat) (f : Int) (v : Bool) (xs : List Bool) (w : World) (hr : BRow w 4 g xs) (hxn : xs.length = n) (hn : n ≤ 16384) (hf : f ≤ 9223372036854775807) :
    Calls Try.prog 14 #[.slice (some ⟨g, 0, none⟩) n c, .int .i64 f, .bool v] w fun e w' => e = .returned (.int .i64 (nextR xs f.toNat v)) ∧ w = w' := by
  have HR := (show Hid (∀ i : Nat, i < n → w.cell? ⟨g, i, none⟩ = some (.bool (xs[i]?.getD false))) from fun i hi => hr.cell (by omega))
  have HX := (show Hid (xs.length = n) from hxn)
  clear hr hxn
  generalize hN : nextR xs f.toNat v = r
  obtain ⟨i0, hi0, hi1⟩ : ∃ i0 : Nat, i0 = f.toNat ∧ (i0 : Int) ≤ 9223372036854775807 := ⟨_, rfl, by omega⟩
  rw [← hi0] at hN
  have HN := (show Hid (nextR xs i0 v = r) from hN)
  clear hN
  rcases (show f = i0 ∨ f < 0 ∧ i0 = 0 by omega) with rfl | ⟨hneg, rfl⟩
  all_goals
    clear hi0
    go_enter Try.func14, Try.ntmps14
    go_wp2
    go_loop [7] (fun i => ∃ j : Nat, i = .int .i64 j ∧ (j : Int) ≤ 9223372036854775807 ∧ Hid (nextR xs j v = r)) (fun i => n - (intOf i).toNat)
    case atStart => first | exact ⟨i0, rfl, hi1, HN⟩ | exact ⟨0, rfl, by omega, HN⟩
    case round =>
      obtain ⟨j, rfl, hj, HJ⟩ := hrel
      by_cases hlt : j < n
      · have hc := HR.out j hlt
        by_cases hv : xs[j]?.getD false = v
        · have HF := (show Hid ((j : Int) = r) from (nextR_yes xs j v (by rw [HX.out]; exact hlt) hv).symm.trans HJ.out)
          rw [hv] at hc
          clear hv
          go_wp2
          go_ret
          exact ⟨by rw [← HF.out]; rfl, rfl⟩
        · have HK := (show Hid (nextR xs (j + 1) v = r) from (nextR_no xs j v (by rw [HX.out]; exact hlt) hv).symm.trans HJ.out)
          obtain ⟨y, hy⟩ : ∃ y, xs[j]?.getD false = y := ⟨_, rfl⟩
          rw [hy] at hc hv
          have hbq : (y == v) = false := by rw [beq_eq_false_iff_ne]; exact hv
          clear hy hv
          go_wp2
          go_round
          case rel => exact ⟨j + 1, by go_num, by omega, HK⟩
          case measure => simp [intOf]; omega
      · have HF := (show Hid (-1 = r) from (nextR_end xs j v (by rw [HX.out]; omega)).symm.trans HJ.out)
        have hd : decide ((j : Int) < n) = false := by rw [decide_eq_false_iff_not]; omega
        go_wp2
        go_ret
        exact ⟨by rw [← HF.out]; rfl, rfl⟩

set_option maxHeartbeats 400000 in
theorem rcount_any (g n c : Nat) (xs : List Bool) (w : World) (hr : BRow w 4 g xs) (hxn : xs.length = n) (hn : n ≤ 16384) :
    Calls Try.prog 20 #[.slice (some ⟨g, 0, none⟩) n c] w fun e w' => e = .returned (.int .i64 (cntA xs)) ∧ w = w' := by
  have HR := (show Hid (∀ i : Nat, i < n → w.cell? ⟨g, i, none⟩ = some (.bool (xs[i]?.getD false))) from fun i hi => hr.cell (by omega))
  have HX := (show Hid (xs.length = n) from hxn)
  clear hr hxn
  go_enter Try.func20, Try.ntmps20
  go_wp2
  go_loop [3, 4] (fun c i => ∃ j q : Nat, i = .int .i64 j ∧ c = .int .i64 q ∧ j ≤ n ∧ q ≤ j ∧ Hid (q = cnt xs j)) (fun _ i => n - (intOf i).toNat)
  case atStart => exact ⟨0, 0, rfl, rfl, by omega, by omega, (cnt_zero xs).symm⟩
  case round =>
    obtain ⟨j, q, rfl, rfl, hj, hq, HJ⟩ := hrel
    by_cases hlt : j < n
    · have hc := HR.out j hlt
      have hs := cnt_step xs j (by rw [HX.out]; exact hlt)
      by_cases hv : xs[j]?.getD false = true
      · rw [if_pos hv] at hs
        have HK := (show Hid (q + 1 = cnt xs (j + 1)) from by show q + 1 = cnt xs (j + 1); rw [hs, ← HJ.out])
        rw [hv] at hc
        clear hv HJ hs
        go_wp2
        go_round
        case rel => exact ⟨j + 1, q + 1, by go_num, by go_num, by omega, by omega, HK⟩
        case measure => simp [intOf]; omega
      · rw [if_neg hv] at hs
        have HK := (show Hid (q = cnt xs (j + 1)) from by rw [hs, ← HJ.out]; rfl)
        have hv' : xs[j]?.getD false = false := by simpa using hv
        rw [hv'] at hc
        clear hv hv' HJ hs
        go_wp2
        go_round
        case rel => exact ⟨j + 1, q, by go_num, rfl, by omega, by omega, HK⟩
        case measure => simp [intOf]; omega
    · obtain rfl : j = n := by omega
      go_wp2
      go_ret
      exact ⟨by unfold cntA; rw [HX.out, ← HJ.out]; rfl, rfl⟩

set_option maxHeartbeats 400000 in
theorem rclear_any (g n c i k : Nat) (xs : List Bool) (w : World) (hr : BRow w 4 g xs) (hxn : xs.length = n) (hn : n ≤ 16384) (hik : i + k ≤ n) :
    Calls Try.prog 23 #[.slice (some ⟨g, 0, none⟩) n c, .int .i64 i, .int .i64 k] w fun e w' => e = .returned (.bool (clrB xs i k)) ∧ w = w' := by
  have HR := (show Hid (∀ i : Nat, i < n → w.cell? ⟨g, i, none⟩ = some (.bool (xs[i]?.getD false))) from fun i hi => hr.cell (by omega))
  have HX := (show Hid (xs.length = n) from hxn)
  clear hr hxn
  generalize hN : clrB xs i k = r
  have HN := (show Hid (clrB xs i k = r) from hN)
  clear hN
  go_enter Try.func23, Try.ntmps23
  go_wp2
  go_loop [7] (fun q => ∃ j : Nat, q = .int .i64 j ∧ i ≤ j ∧ j ≤ i + k ∧ Hid (∀ t, i ≤ t → t < j → xs[t]?.getD false = false)) (fun q => i + k - (intOf q).toNat)
  case atStart => exact ⟨i, rfl, by omega, by omega, fun t a b => by omega⟩
  case round =>
    obtain ⟨j, rfl, hj1, hj2, HJ⟩ := hrel
    by_cases hlt : j < i + k
    · have hc := HR.out j (by omega)
      by_cases hv : xs[j]?.getD false = true
      · have HF := (show Hid (false = r) from by
          rw [← HN.out]
          cases h : clrB xs i k
          · rfl
          · have := ((clrB_iff _ _ _).1 h).2 j hj1 hlt; rw [hv] at this; cases this)
        rw [hv] at hc
        clear hv HJ
        go_wp2
        go_ret
        exact ⟨by rw [← HF.out]; rfl, rfl⟩
      · have hv' : xs[j]?.getD false = false := by simpa using hv
        have HK := (show Hid (∀ t, i ≤ t → t < j + 1 → xs[t]?.getD false = false) from fun t a b => by
          by_cases e : t = j
          · subst e; exact hv'
          · exact HJ.out t a (by omega))
        rw [hv'] at hc
        clear hv hv' HJ
        go_wp2
        go_round
        case rel => exact ⟨j + 1, by go_num, by omega, by omega, HK⟩
        case measure => simp [intOf]; omega
    · have HF := (show Hid (true = r) from by
        show true = r
        rw [← HN.out]; symm; rw [clrB_iff]
        exact ⟨by rw [HX.out]; exact hik, fun t a b => HJ.out t a (by omega)⟩)
      have hd : decide ((j : Int) < (i : Int) + k) = false := by rw [decide_eq_false_iff_not]; omega
      go_wp2
      go_ret
      exact ⟨by rw [← HF.out]; rfl, rfl⟩

set_option maxHeartbeats 400000 in
theorem rrun_low (x : Value) (f k : Int) (w : World) (h : k < 1) :
    Calls Try.prog 16 #[x, .int .i64 f, .int .i64 k] w fun e w' => e = .returned (.int .i64 (-1)) ∧ w = w' := by
  go_enter Try.func16, Try.ntmps16
  go_wp2
  go_ret
  exact ⟨rfl, rfl⟩
set_option maxHeartbeats 400000 in
theorem rrun_big (g n c : Nat) (f k : Int) (w : World) (h1 : 1 ≤ k) (h : (n : Int) < k) :
    Calls Try.prog 16 #[.slice (some ⟨g, 0, none⟩) n c, .int .i64 f, .int .i64 k] w fun e w' => e = .returned (.int .i64 (-1)) ∧ w = w' := by
  go_enter Try.func16, Try.ntmps16
  go_wp2
  go_ret
  exact ⟨rfl, rfl⟩
set_option maxHeartbeats 400000 in
theorem rrun_core (g n c k : Nat) (f : Int) (xs : List Bool) (w : World) (hr : BRow w 4 g xs) (hxn : xs.length = n) (hn : n ≤ 16384) (hf : f ≤ 9223372036854775807) (h1 : 1 ≤ k) (h2 : k ≤ n) :
    Calls Try.prog 16 #[.slice (some ⟨g, 0, none⟩) n c, .int .i64 f, .int .i64 k] w fun e w' => e = .returned (.int .i64 (runR xs f.toNat k)) ∧ w = w' := by
  have HX := (show Hid (xs.length = n) from hxn)
  have HR := (show Hid (BRow w 4 g xs) from hr)
  clear hxn hr
  generalize hN : runR xs f.toNat k = r
  obtain ⟨i0, hi0, hi1⟩ : ∃ i0 : Nat, i0 = f.toNat ∧ (i0 : Int) ≤ 9223372036854775807 := ⟨_, rfl, by omega⟩
  rw [← hi0] at hN
  have HN := (show Hid (runR xs i0 k = r) from hN)
  clear hN
  have hk1 : decide ((k : Int) < 1) = false := by rw [decide_eq_false_iff_not]; omega
  have hk2 : decide (n < k) = false := by rw [decide_eq_false_iff_not]; omega
  rcases (show f = i0 ∨ f < 0 ∧ i0 = 0 by omega) with rfl | ⟨hneg, rfl⟩
  all_goals
    clear hi0
    go_enter Try.func16, Try.ntmps16
    go_wp2
    go_loop [7] (fun i => ∃ j : Nat, i = .int .i64 j ∧ (j : Int) ≤ 9223372036854775807 ∧ Hid (runR xs j k = r)) (fun i => n - (intOf i).toNat)
    case atStart => first | exact ⟨i0, rfl, hi1, HN⟩ | exact ⟨0, rfl, by omega, HN⟩
    case round =>
      obtain ⟨j, rfl, hj, HJ⟩ := hrel
      by_cases hlt : j + k ≤ n
      · by_cases hv : clrB xs j k = true
        · have HF := (show Hid ((j : Int) = r) from (runR_yes xs j k h1 ((clrB_iff _ _ _).1 hv)).symm.trans HJ.out)
          have HV := (show Hid (clrB xs j k = true) from hv)
          clear hv
          go_wp2_with (go_at_call 23; refine (rclear_any _ _ _ j k _ _ HR.out HX.out hn hlt).mono ?_; rw [HV.out]; rintro e w' ⟨rfl, rfl⟩)
          go_ret
          exact ⟨by rw [← HF.out]; rfl, rfl⟩
        · have HK := (show Hid (runR xs (j + 1) k = r) from (runR_no xs j k (fun e => hv ((clrB_iff _ _ _).2 e))).symm.trans HJ.out)
          have HV := (show Hid (clrB xs j k = false) from by show clrB xs j k = false; simpa using hv)
          clear hv
          go_wp2_with (go_at_call 23; refine (rclear_any _ _ _ j k _ _ HR.out HX.out hn hlt).mono ?_; rw [HV.out]; rintro e w' ⟨rfl, rfl⟩)
          go_round
          case rel => exact ⟨j + 1, by go_num, by omega, HK⟩
          case measure => simp [intOf]; omega
      · have HF := (show Hid (-1 = r) from (runR_end xs j k (by rw [HX.out]; omega)).symm.trans HJ.out)
        have hd : decide ((j : Int) ≤ (n : Int) - k) = false := by rw [decide_eq_false_iff_not]; omega
        go_wp2
        go_ret
        exact ⟨by rw [← HF.out]; rfl, rfl⟩
theorem rrun_any (g n c : Nat) (f k : Int) (xs : List Bool) (w : World) (hr : BRow w 4 g xs) (hxn : xs.length = n) (hn : n ≤ 16384) (hf : f ≤ 9223372036854775807) :
    Calls Try.prog 16 #[.slice (some ⟨g, 0, none⟩) n c, .int .i64 f, .int .i64 k] w fun e w' => e = .returned (.int .i64 (runI xs f k)) ∧ w = w' := by
  unfold runI
  by_cases h : k < 1
  · rw [if_pos h]; exact rrun_low _ f k w h
  · rw [if_neg h]
    obtain ⟨m, rfl⟩ := Int.eq_ofNat_of_zero_le (show 0 ≤ k by omega)
    by_cases h2 : m ≤ n
    · exact rrun_core g n c m f xs w hr hxn hn hf (by omega) h2
    · rw [Int.toNat_natCast, runR_end _ _ _ (by omega)]
      exact rrun_big g n c f m w (by omega) (by omega)

set_option maxHeartbeats 800000 in
theorem rset_no (g n c d : Nat) (v : Bool) (ao : Option Addr) (L : List Int) (w : World) (hL : IntsAt w ao L) (hl : L.length ≤ 9223372036854775807) (hf : fitsB n L = false) :
    Calls Try.prog 12 #[.slice (some ⟨g, 0, none⟩) n c, .bool v, .slice ao L.length d] w fun e w' => e = .returned (.int .i64 2) ∧ w = w' := by
  have HL := (show Hid (IntsAt w ao L) from hL)
  have HF := (show Hid (fitsB n L = false) from hf)
  clear hL hf
  go_enter Try.func12, Try.ntmps12
  go_wp2
  go_loop [7] (fun i => ∃ j : Nat, i = .int .i64 j ∧ j ≤ L.length ∧ Hid (∀ t, t < j → 0 ≤ L[t]?.getD 0 ∧ L[t]?.getD 0 < (n : Int))) (fun i => L.length - (intOf i).toNat)
  case atStart => exact ⟨0, rfl, by omega, fun t h => by omega⟩
  case round =>
    obtain ⟨j, rfl, hj, HJ⟩ := hrel
    by_cases hlt : j < L.length
    · obtain ⟨ab, off, rfl, hab, hcs⟩ := HL.out.cells (by omega)
      have hc := hcs j hlt
      clear hcs
      by_cases hin : 0 ≤ L[j]?.getD 0 ∧ L[j]?.getD 0 < (n : Int)
      · have HK := (show Hid (∀ t, t < j + 1 → 0 ≤ L[t]?.getD 0 ∧ L[t]?.getD 0 < (n : Int)) from fun t ht => by
          by_cases e : t = j
          · subst e; exact hin
          · exact HJ.out t (by omega))
        generalize L[j]?.getD 0 = x at *
        obtain ⟨hin1, hin2⟩ := hin
        have hd1 : decide (x < 0) = false := by rw [decide_eq_false_iff_not]; omega
        have hd2 : decide ((n : Int) ≤ x) = false := by rw [decide_eq_false_iff_not]; omega
        clear HJ
        go_wp2
        go_round
        case rel => exact ⟨j + 1, by go_num, by omega, HK⟩
        case measure => simp [intOf]; omega
      · generalize L[j]?.getD 0 = x at *
        rcases (show x < 0 ∨ 0 ≤ x ∧ (n : Int) ≤ x by omega) with h0 | ⟨h0, h1⟩
        all_goals
          clear HJ hin
          go_wp2
          go_ret
          exact ⟨rfl, rfl⟩
    · have := HF.out.symm.trans (fitsB_true n L (fun t ht => HJ.out t (by omega)))
      cases this

set_option maxHeartbeats 800000 in
theorem rset_yes (g n c d : Nat) (v : Bool) (xs : List Bool) (ao : Option Addr) (L : List Int) (w : World) (hr : BRow w 4 g xs) (hxn : xs.length = n) (hL : IntsAt w ao L) (ho : 0 < L.length → Off ao [g]) (hl : L.length ≤ 9223372036854775807) (hf : fitsB n L = true) :
    Calls Try.prog 12 #[.slice (some ⟨g, 0, none⟩) n c, .bool v, .slice ao L.length d] w fun e w' => e = .returned (.int .i64 0) ∧ BRow w' 4 g (setAll xs v L) ∧ Keep [g] w w' := by
  have HL := (show Hid (IntsAt w ao L) from hL)
  have HR := (show Hid (BRow w 4 g xs) from hr)
  have HX := (show Hid (xs.length = n) from hxn)
  have HO := (show Hid (0 < L.length → Off ao [g]) from ho)
  have HF := (show Hid (∀ j, j < L.length → 0 ≤ L[j]?.getD 0 ∧ L[j]?.getD 0 < (n : Int)) from fitsB_get _ _ hf)
  clear hL hf hr hxn ho
  go_enter Try.func12, Try.ntmps12
  go_wp2
  go_loop [7] (fun i => ∃ j : Nat, i = .int .i64 j ∧ j ≤ L.length) (fun i => L.length - (intOf i).toNat)
  case atStart => exact ⟨0, rfl, by omega⟩
  case round =>
    obtain ⟨j, rfl, hj⟩ := hrel
    by_cases hlt : j < L.length
    · obtain ⟨ab, off, rfl, hab, hcs⟩ := HL.out.cells (by omega)
      have hc := hcs j hlt
      have hin := HF.out j hlt
      clear hcs
      generalize L[j]?.getD 0 = x at *
      obtain ⟨hin1, hin2⟩ := hin
      have hd1 : decide (x < 0) = false := by rw [decide_eq_false_iff_not]; omega
      have hd2 : decide ((n : Int) ≤ x) = false := by rw [decide_eq_false_iff_not]; omega
      go_wp2
      go_round
      case rel => exact ⟨j + 1, by go_num, by omega⟩
      case measure => simp [intOf]; omega
    · have hd : decide ((j : Int) < L.length) = false := by rw [decide_eq_false_iff_not]; omega
      go_wp2
      go_loopw [8] (fun i wr => ∃ j : Nat, i = .int .i64 j ∧ j ≤ L.length ∧ BRow wr 4 g (setAll xs v (L.take j)) ∧ Keep [g] w wr) (fun i _ => L.length - (intOf i).toNat)
      case atStart => exact ⟨0, rfl, by omega, HR.out, Keep.refl _ _⟩
      case round =>
        obtain ⟨j2, rfl, hj2, hA, hK⟩ := hrel
        by_cases hlt2 : j2 < L.length
        · have hL2 := HL.out.keep hK HO.out
          obtain ⟨ab, off, rfl, hab, hcs⟩ := hL2.cells (by omega)
          have hc := hcs j2 hlt2
          have hin := HF.out j2 hlt2
          have HS := (show Hid (setAll xs v (L.take (j2 + 1)) = (setAll xs v (L.take j2)).set (L[j2]?.getD 0).toNat v) from setAll_step xs v L j2 hlt2)
          have hlen := (setAll_length xs v (L.take j2)).trans HX.out
          clear hcs hL2
          generalize L[j2]?.getD 0 = x at *
          obtain ⟨k, rfl⟩ := Int.eq_ofNat_of_zero_le hin.1
          rw [Int.toNat_natCast] at HS
          have hk : k < (setAll xs v (L.take j2)).length := by omega
          have y1 := hA.cell hk
          have y2 := hA.free k
          have HR2 := (show Hid (BRow (wr.setCell ⟨g, k, none⟩ (.bool v)) 4 g ((setAll xs v (L.take j2)).set k v)) from hA.put k v)
          clear hA hlen hk
          generalize (setAll xs v (L.take j2)) = ys at *
          go_wp2
          go_roundw
          case rel =>
            have hK2 : Keep [g] wr (wr.setCell ⟨g, k, none⟩ (.bool v)) := Keep.setCell _ _ (by simp)
            exact ⟨j2 + 1, by go_num, by omega, by rw [HS.out]; exact HR2.out, hK.trans hK2⟩
          case measure => simp [intOf]; omega
        · have HT := (show Hid (L.take j2 = L) from List.take_of_length_le (by omega))
          rw [HT.out] at hA
          have hd : decide ((j2 : Int) < L.length) = false := by rw [decide_eq_false_iff_not]; omega
          go_wp2
          go_ret
          exact ⟨rfl, hA, hK⟩
theorem rset_any (g n c d : Nat) (v : Bool) (xs : List Bool) (ao : Option Addr) (L : List Int) (w : World) (hr : BRow w 4 g xs) (hxn : xs.length = n) (hL : IntsAt w ao L) (ho : 0 < L.length → Off ao [g]) (hl : L.length ≤ 9223372036854775807) :
    Calls Try.prog 12 #[.slice (some ⟨g, 0, none⟩) n c, .bool v, .slice ao L.length d] w fun e w' => e = .returned (.int .i64 (setE n L)) ∧ BRow w' 4 g (setR xs v L) ∧ Keep [g] w w' := by
  unfold setE setR
  rw [hxn]
  by_cases hf : fitsB n L = true
  · simp only [if_pos hf]; exact rset_yes g n c d v xs ao L w hr hxn hL ho hl hf
  · simp only [if_neg hf]
    refine (rset_no g n c d v ao L w hL hl (by simpa using hf)).mono ?_
    rintro e w' ⟨rfl, rfl⟩
    exact ⟨rfl, hr, Keep.refl _ _⟩

end Go.Proofs.Ytlknacpnckiklaa
