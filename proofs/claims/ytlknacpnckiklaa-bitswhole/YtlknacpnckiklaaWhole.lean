/-
  BitsWhole answers true, whatever it is given.
-/
import Derived.Test.YtlknacpnckiklaaAwake2
import Derived.Test.YtlknacpnckiklaaOpens
import Derived.Test.YtlknacpnckiklaaOwn
namespace Go.Proofs.Ytlknacpnckiklaa
open Go.RowKit

theorem Try.infoInt : (Try.prog.info? 3).map (fun i => (i.zero, i.size, i.bytes)) = some (some (.int .i64 0), 1, 8) := by kernel_rfl

set_option maxRecDepth 100000 in
set_option maxHeartbeats 8000000 in
theorem whole_any (ao : Option Addr) (n c nn : Nat) (odd : Int) (wi : Bool) (A : Nat → Nat) (w : World) (hn : n ≤ 9223372036854775807) (hl : U8At w ao n A) (hnn : nn < 256) (hod1 : -9223372036854775808 ≤ odd) (hod2 : odd ≤ 9223372036854775807) :
    Calls Try.prog 5 #[.slice ao n c, .int .u8 nn, .int .i64 odd, .bool wi] w fun e w' => e = .returned (.bool true) ∧ Keep [] w w' := by
  obtain ⟨i0, hi, hz0, hz1, hz2⟩ := info_parts Try.infoInt
  have hI : Hid (Try.prog.info? 3 = some i0 ∧ i0.zero = some (.int .i64 0) ∧ i0.size = 1 ∧ i0.bytes = 8) := ⟨hi, hz0, hz1, hz2⟩
  clear hi hz0 hz1 hz2
  obtain ⟨m, hm1, hm2, hm3⟩ : ∃ m : Nat, 1 + (nn : Int) % 200 = m ∧ 1 ≤ m ∧ m ≤ 200 := ⟨1 + nn % 200, by omega, by omega, by omega⟩
  go_enter Try.func5, Try.ntmps5
  go_wp2_with fail
  refine (bnew_ok m w (by omega)).mono ?_
  rintro e w1 ⟨b, g, rfl, hA, hK, hb, hg⟩
  have hlt := hA.lt
  go_wp2_with (first | (go_at_call 9; refine (err_any _ _).mono ?_; rintro e w' ⟨rfl, rfl⟩))
  have HN := (show Hid (U8At w ao n A) from hl)
  have HA := (show Hid (IsBits w1 b g (offs m)) from hA)
  have HK := (show Hid (Keep [] w w1) from hK)
  have hsz := hK.size
  clear hl hA hK
  go_loopw [12, 13] (fun v i wr => ∃ (j : Nat) (L : List Int) (vv : Value), vv = v ∧ j ≤ n ∧ j ≤ 30 ∧ i = .int .i64 j ∧ wr.ownsRow w1.heap.size 3 1 v j (ints L) ∧ Hid (∀ i ∈ L, 0 ≤ i ∧ i < (m : Int)) ∧ Keep [] w1 wr) (fun _ i _ => n - (intOf i).toNat)
  case atStart => exact ⟨0, [], _, rfl, by omega, by omega, rfl, World.ownsRow_nil _ _ _ _, fun i h => by simp at h, Keep.refl _ _⟩
  case round =>
    obtain ⟨j, L, v, hvv, hj, hj30, rfl, hown, HL, hK2⟩ := hrel
    subst hvv
    by_cases hlt2 : j < n ∧ j < 30
    · obtain ⟨hjn, hj3⟩ := hlt2
      obtain ⟨ab, off, rfl, hab, hcs⟩ := HN.out.cells (by omega)
      have hc := (hK2.cell (show ab < w1.heap.size by omega) (by simp) (off + j)).trans ((HK.out.cell hab (by simp) (off + j)).trans (hcs j hjn))
      have hlt8 := HN.out.lt j
      clear hcs
      generalize A j = k at *
      have hmm : 0 ≤ (k : Int) % (m : Int) ∧ (k : Int) % (m : Int) < m := ⟨Int.emod_nonneg _ (by omega), Int.emod_lt_of_pos _ (by omega)⟩
      go_wp2_with (at_builtin; refine wpList_append_own _ rfl (.tmp 44) (.tmp 52) 31 rfl w1.heap.size 3 i0 (.int .i64 0) 1 8 Try.underlying31 hI.out.1 hI.out.2.1 hI.out.2.2.1 hI.out.2.2.2 rfl (by decide) _ _ _ rfl (hown.alloc _) ⟨wr.heap.size, 0, none⟩ 1 1 (ints [(k : Int) % (m : Int)]) rfl rfl (one_cell _ _ _) (ints_one _) (by unfold maxLen; omega) (by omega) (by have := hK2.size; simp; omega) ?_; intro v' w5 hown5 hgrow _)
      rw [ints_app] at hown5
      have hK5 : Keep [] w1 w5 := (hK2.trans (Keep.alloc [] _ _)).grown hgrow (own_block hown)
      clear hown hgrow hK2
      go_wp2_with fail
      go_roundw
      case rel => exact ⟨j + 1, L ++ [(k : Int) % (m : Int)], _, rfl, by omega, by omega, by go_num, hown5, fun i hi => by
        rcases List.mem_append.1 hi with h | h
        · exact HL.out i h
        · obtain rfl := List.mem_singleton.1 h; exact hmm, hK5⟩
      case measure => simp [intOf]; omega
    · have hin : ∀ i ∈ L, 0 ≤ i ∧ i < (m : Int) := HL.out
      have hbd : ∀ i : Nat, -9223372036854775808 ≤ L[i]?.getD 0 ∧ L[i]?.getD 0 ≤ 9223372036854775807 := fun i => by
        by_cases h : i < L.length
        · have := hin _ (show L[i]?.getD 0 ∈ L by simp [h]); omega
        · rw [List.getElem?_eq_none (by omega)]; simp
      have HB := (show Hid (∀ i : Nat, -9223372036854775808 ≤ L[i]?.getD 0 ∧ L[i]?.getD 0 ≤ 9223372036854775807) from hbd)
      have hjl : j = L.length := by have := hown.1; rw [ints_length, Nat.mul_one] at this; exact this.symm
      have hl30 : L.length ≤ 30 := by omega
      have HF := (show Hid (fitsB (offs m).length L = true) from by show fitsB (offs m).length L = true; rw [offs_length, fitsB_iff]; exact hin)
      have hA2 := HA.out.keep hK2 (by simp) (by simp)
      obtain ⟨la, lc, rfl, hIL, hoff, hlc⟩ : ∃ la lc, v = .slice la L.length lc ∧ IntsAt wr la L ∧ (∀ a, la = some a → w1.heap.size ≤ a.block) ∧ (la = none → lc = 0) := by
        rcases own_ints hown hbd with ⟨rfl, rfl, rfl⟩ | ⟨gl, cap, rfl, _, hgl, _, hIL⟩
        · exact ⟨none, 0, rfl, IntsAt.nil _ _, fun a h => (by cases h), fun _ => rfl⟩
        · exact ⟨some ⟨gl, 0, none⟩, cap, rfl, hIL, fun a h => (by cases h; exact hgl), fun h => (by cases h)⟩
      have HJ := (show Hid (j = L.length) from hjl)
      clear hin hbd hjl
      rcases (show (j < n) ∧ j = 30 ∨ n ≤ j by omega) with ⟨hx, rfl⟩ | hx
      all_goals
        try have hd0 : decide (j < n) = false := by rw [decide_eq_false_iff_not]; omega
        rcases (show (0 ≤ odd ∧ odd < (m : Int)) ∨ odd < 0 ∨ (m : Int) ≤ odd by omega) with ⟨ho1, ho2⟩ | ho1 | ho1
        · clear hlt2 hj
          have HI := (show Hid (IntsAt wr la L) from hIL)
          have HO := (show Hid (∀ a, la = some a → w1.heap.size ≤ a.block) from hoff)
          have HC := (show Hid (la = none → lc = 0) from hlc)
          clear hIL hoff hlc hown
          have hszr := hK2.size
          cases wi
          · go_wp2_with fail
            refine (bset_yes b g lc true _ la L wr hA2 HI.out (fun _ a e => by have := HO.out a e; simp; omega) (by omega) HF.out).mono ?_
            rintro e w5 ⟨rfl, hA5, hK5⟩
            have hI5 := (show Hid (IntsAt w5 la L) from HI.out.keep hK5 (fun _ a e => by have := HO.out a e; simp; omega))
            go_wp2_with (go_at_call 9; refine (err_any _ _).mono ?_; rintro e w' ⟨rfl, rfl⟩)
            go_loop [16] (fun i => ∃ q : Nat, i = .int .i64 q ∧ q ≤ L.length) (fun i => L.length - (intOf i).toNat)
            case atStart => exact ⟨0, rfl, by omega⟩
            case round =>
              obtain ⟨q, rfl, hq⟩ := hrel
              by_cases hql : q < L.length
              · obtain ⟨lb, lo, rfl, _, hcs⟩ := hI5.out.cells (by omega)
                have hc5 := hcs q hql
                have hb5 := HL.out _ (show L[q]?.getD 0 ∈ L by simp [hql])
                have hh := set_has m L HL.out q hql
                clear hcs
                generalize L[q]?.getD 0 = y at *
                obtain ⟨k, rfl⟩ := Int.eq_ofNat_of_zero_le hb5.1
                have HH := (show Hid (hasR (setAll (offs m) true L) k = true) from by
                  show hasR (setAll (offs m) true L) k = true
                  rw [has_nat _ _ (by rw [setAll_length, offs_length]; omega)]; simpa using hh)
                clear hh
                go_wp2_with (go_at_call 17; refine (bhas_any b g k _ _ hA5).mono ?_; rw [HH.out]; rintro e w' ⟨rfl, rfl⟩)
                go_round
                case rel => exact ⟨q + 1, by go_num, by omega⟩
                case measure => simp [intOf] <;> omega
              · have hdq : decide (q < L.length) = false := by rw [decide_eq_false_iff_not]; omega
                go_wp2_with fail
                refine (bset_yes b g lc false _ la L w5 hA5 hI5.out (fun _ a e => by have := HO.out a e; simp; omega) (by omega) (by rw [setAll_length]; exact HF.out)).mono ?_
                rintro e w6 ⟨rfl, hA6, hK6⟩
                have HZ := (show Hid (cntA (setAll (setAll (offs m) true L) false L) = 0) from set_reset m L HL.out)
                go_wp2_with (first | (go_at_call 9; refine (err_any _ _).mono ?_; rintro e w' ⟨rfl, rfl⟩) | (go_at_call 19; refine (bcount_any _ _ _ _ hA6).mono ?_; rw [HZ.out]; rintro e w' ⟨rfl, rfl⟩))
                refine (bset_yes b g 0 true _ none [] w6 hA6 (IntsAt.nil _ _) (fun _ a e => by cases e) (by simp) rfl).mono ?_
                rintro e w7 ⟨rfl, hA7, hK7⟩
                go_wp2_with (first | (go_at_call 9; refine (err_any _ _).mono ?_; rintro e w' ⟨rfl, rfl⟩) | (go_at_call 10; refine (awake2_any _).mono ?_; rintro e w8 ⟨rfl, hK8⟩))
                go_ret
                have k7 : Keep [g] w w8 := (((((HK.out.trans hK2).mono (by simp)).trans hK5).trans hK6).trans hK7).trans (hK8.mono (by simp))
                exact ⟨rfl, k7.drop (by simp; omega)⟩
          · go_wp2_with (first | (at_builtin; refine append_ints rfl (.tmp 63) (.tmp 64) 31 rfl w1.heap.size 3 i0 Try.underlying31 hI.out _ 0 [] L rfl (own_base (own_empty wr 3) hszr) la L.length lc rfl rfl (HI.out.keep (Keep.alloc [] _ _) (fun _ _ _ => by simp)) HC.out (by omega) (by simp; omega) ?_; intro v5 w5 hown5 hgrow5; rw [List.nil_append] at hown5; have hK5 := (hK2.trans (Keep.alloc [] _ _)).grown hgrow5 (fun k e => by cases e; exact hszr); have hsz5 := hK5.size; clear hgrow5) | (at_builtin; refine append_ints rfl (.tmp 65) (.tmp 67) 31 rfl w1.heap.size 3 i0 Try.underlying31 hI.out _ (0 + L.length) L [(-1)] rfl (hown5.alloc _) (some ⟨w5.heap.size, 0, none⟩) 1 1 rfl rfl (IntsAt.one w5 3 (-1) (by omega) (by omega)) (fun e => by cases e) (by omega) (by simp; omega) ?_; intro v6 w6 hown6 hgrow6; have hK6 := (hK5.trans (Keep.alloc [] _ _)).grown hgrow6 (own_block hown5); obtain ⟨g6, c6, rfl, hg6, hg7, hI6⟩ := own_snoc hown6 (app_bd HB.out (by omega) (by omega)); clear hown5 hown6 hgrow6))
            · have HF6 := (show Hid (fitsB (offs m).length (L ++ [(-1)]) = false) from app_unfit L _ (by rw [offs_length]; omega))
              have HI6 := (show Hid (IntsAt w6 (some ⟨g6, 0, none⟩) (L ++ [(-1)])) from hI6)
              have hA6 := HA.out.keep hK6 (by simp) (by simp)
              clear hA2 hI6
              have HZ := (show Hid (cntA (offs m) = 0) from cntA_offs m)
              refine (bset_no' b g c6 (L.length + 1) true _ _ (L ++ [(-1)]) w6 (by simp) hA6 HI6.out (by omega) HF6.out).mono ?_
              rintro e w7 ⟨rfl, rfl⟩
              go_wp2_with (first | (go_at_call 9; refine (err_any _ _).mono ?_; rintro e w' ⟨rfl, rfl⟩) | (go_at_call 19; refine (bcount_any _ _ _ _ hA6).mono ?_; rw [HZ.out]; rintro e w' ⟨rfl, rfl⟩) | (go_at_call 10; refine (awake2_any _).mono ?_; rintro e w8 ⟨rfl, hK8⟩))
              go_ret
              exact ⟨rfl, (HK.out.trans hK6).trans hK8⟩
        · clear hlt2 hj
          have HI := (show Hid (IntsAt wr la L) from hIL)
          have HO := (show Hid (∀ a, la = some a → w1.heap.size ≤ a.block) from hoff)
          have HC := (show Hid (la = none → lc = 0) from hlc)
          clear hIL hoff hlc hown
          have hszr := hK2.size
          cases wi
          · go_wp2_with fail
            refine (bset_yes b g lc true _ la L wr hA2 HI.out (fun _ a e => by have := HO.out a e; simp; omega) (by omega) HF.out).mono ?_
            rintro e w5 ⟨rfl, hA5, hK5⟩
            have hI5 := (show Hid (IntsAt w5 la L) from HI.out.keep hK5 (fun _ a e => by have := HO.out a e; simp; omega))
            go_wp2_with (go_at_call 9; refine (err_any _ _).mono ?_; rintro e w' ⟨rfl, rfl⟩)
            go_loop [16] (fun i => ∃ q : Nat, i = .int .i64 q ∧ q ≤ L.length) (fun i => L.length - (intOf i).toNat)
            case atStart => exact ⟨0, rfl, by omega⟩
            case round =>
              obtain ⟨q, rfl, hq⟩ := hrel
              by_cases hql : q < L.length
              · obtain ⟨lb, lo, rfl, _, hcs⟩ := hI5.out.cells (by omega)
                have hc5 := hcs q hql
                have hb5 := HL.out _ (show L[q]?.getD 0 ∈ L by simp [hql])
                have hh := set_has m L HL.out q hql
                clear hcs
                generalize L[q]?.getD 0 = y at *
                obtain ⟨k, rfl⟩ := Int.eq_ofNat_of_zero_le hb5.1
                have HH := (show Hid (hasR (setAll (offs m) true L) k = true) from by
                  show hasR (setAll (offs m) true L) k = true
                  rw [has_nat _ _ (by rw [setAll_length, offs_length]; omega)]; simpa using hh)
                clear hh
                go_wp2_with (go_at_call 17; refine (bhas_any b g k _ _ hA5).mono ?_; rw [HH.out]; rintro e w' ⟨rfl, rfl⟩)
                go_round
                case rel => exact ⟨q + 1, by go_num, by omega⟩
                case measure => simp [intOf] <;> omega
              · have hdq : decide (q < L.length) = false := by rw [decide_eq_false_iff_not]; omega
                go_wp2_with fail
                refine (bset_yes b g lc false _ la L w5 hA5 hI5.out (fun _ a e => by have := HO.out a e; simp; omega) (by omega) (by rw [setAll_length]; exact HF.out)).mono ?_
                rintro e w6 ⟨rfl, hA6, hK6⟩
                have HZ := (show Hid (cntA (setAll (setAll (offs m) true L) false L) = 0) from set_reset m L HL.out)
                go_wp2_with (first | (go_at_call 9; refine (err_any _ _).mono ?_; rintro e w' ⟨rfl, rfl⟩) | (go_at_call 19; refine (bcount_any _ _ _ _ hA6).mono ?_; rw [HZ.out]; rintro e w' ⟨rfl, rfl⟩))
                refine (bset_yes b g 0 true _ none [] w6 hA6 (IntsAt.nil _ _) (fun _ a e => by cases e) (by simp) rfl).mono ?_
                rintro e w7 ⟨rfl, hA7, hK7⟩
                go_wp2_with (first | (go_at_call 9; refine (err_any _ _).mono ?_; rintro e w' ⟨rfl, rfl⟩) | (go_at_call 10; refine (awake2_any _).mono ?_; rintro e w8 ⟨rfl, hK8⟩))
                go_ret
                have k7 : Keep [g] w w8 := (((((HK.out.trans hK2).mono (by simp)).trans hK5).trans hK6).trans hK7).trans (hK8.mono (by simp))
                exact ⟨rfl, k7.drop (by simp; omega)⟩
          · go_wp2_with (first | (at_builtin; refine append_ints rfl (.tmp 63) (.tmp 64) 31 rfl w1.heap.size 3 i0 Try.underlying31 hI.out _ 0 [] L rfl (own_base (own_empty wr 3) hszr) la L.length lc rfl rfl (HI.out.keep (Keep.alloc [] _ _) (fun _ _ _ => by simp)) HC.out (by omega) (by simp; omega) ?_; intro v5 w5 hown5 hgrow5; rw [List.nil_append] at hown5; have hK5 := (hK2.trans (Keep.alloc [] _ _)).grown hgrow5 (fun k e => by cases e; exact hszr); have hsz5 := hK5.size; clear hgrow5) | (at_builtin; refine append_ints rfl (.tmp 65) (.tmp 67) 31 rfl w1.heap.size 3 i0 Try.underlying31 hI.out _ (0 + L.length) L [odd] rfl (hown5.alloc _) (some ⟨w5.heap.size, 0, none⟩) 1 1 rfl rfl (IntsAt.one w5 3 odd (by omega) (by omega)) (fun e => by cases e) (by omega) (by simp; omega) ?_; intro v6 w6 hown6 hgrow6; have hK6 := (hK5.trans (Keep.alloc [] _ _)).grown hgrow6 (own_block hown5); obtain ⟨g6, c6, rfl, hg6, hg7, hI6⟩ := own_snoc hown6 (app_bd HB.out (by omega) (by omega)); clear hown5 hown6 hgrow6))
            · have HF6 := (show Hid (fitsB (offs m).length (L ++ [odd]) = false) from app_unfit L _ (by rw [offs_length]; omega))
              have HI6 := (show Hid (IntsAt w6 (some ⟨g6, 0, none⟩) (L ++ [odd])) from hI6)
              have hA6 := HA.out.keep hK6 (by simp) (by simp)
              clear hA2 hI6
              have HZ := (show Hid (cntA (offs m) = 0) from cntA_offs m)
              refine (bset_no' b g c6 (L.length + 1) true _ _ (L ++ [odd]) w6 (by simp) hA6 HI6.out (by omega) HF6.out).mono ?_
              rintro e w7 ⟨rfl, rfl⟩
              go_wp2_with (first | (go_at_call 9; refine (err_any _ _).mono ?_; rintro e w' ⟨rfl, rfl⟩) | (go_at_call 19; refine (bcount_any _ _ _ _ hA6).mono ?_; rw [HZ.out]; rintro e w' ⟨rfl, rfl⟩) | (go_at_call 10; refine (awake2_any _).mono ?_; rintro e w8 ⟨rfl, hK8⟩))
              go_ret
              exact ⟨rfl, (HK.out.trans hK6).trans hK8⟩
        · clear hlt2 hj
          have HI := (show Hid (IntsAt wr la L) from hIL)
          have HO := (show Hid (∀ a, la = some a → w1.heap.size ≤ a.block) from hoff)
          have HC := (show Hid (la = none → lc = 0) from hlc)
          clear hIL hoff hlc hown
          have hszr := hK2.size
          cases wi
          · go_wp2_with fail
            refine (bset_yes b g lc true _ la L wr hA2 HI.out (fun _ a e => by have := HO.out a e; simp; omega) (by omega) HF.out).mono ?_
            rintro e w5 ⟨rfl, hA5, hK5⟩
            have hI5 := (show Hid (IntsAt w5 la L) from HI.out.keep hK5 (fun _ a e => by have := HO.out a e; simp; omega))
            go_wp2_with (go_at_call 9; refine (err_any _ _).mono ?_; rintro e w' ⟨rfl, rfl⟩)
            go_loop [16] (fun i => ∃ q : Nat, i = .int .i64 q ∧ q ≤ L.length) (fun i => L.length - (intOf i).toNat)
            case atStart => exact ⟨0, rfl, by omega⟩
            case round =>
              obtain ⟨q, rfl, hq⟩ := hrel
              by_cases hql : q < L.length
              · obtain ⟨lb, lo, rfl, _, hcs⟩ := hI5.out.cells (by omega)
                have hc5 := hcs q hql
                have hb5 := HL.out _ (show L[q]?.getD 0 ∈ L by simp [hql])
                have hh := set_has m L HL.out q hql
                clear hcs
                generalize L[q]?.getD 0 = y at *
                obtain ⟨k, rfl⟩ := Int.eq_ofNat_of_zero_le hb5.1
                have HH := (show Hid (hasR (setAll (offs m) true L) k = true) from by
                  show hasR (setAll (offs m) true L) k = true
                  rw [has_nat _ _ (by rw [setAll_length, offs_length]; omega)]; simpa using hh)
                clear hh
                go_wp2_with (go_at_call 17; refine (bhas_any b g k _ _ hA5).mono ?_; rw [HH.out]; rintro e w' ⟨rfl, rfl⟩)
                go_round
                case rel => exact ⟨q + 1, by go_num, by omega⟩
                case measure => simp [intOf] <;> omega
              · have hdq : decide (q < L.length) = false := by rw [decide_eq_false_iff_not]; omega
                go_wp2_with fail
                refine (bset_yes b g lc false _ la L w5 hA5 hI5.out (fun _ a e => by have := HO.out a e; simp; omega) (by omega) (by rw [setAll_length]; exact HF.out)).mono ?_
                rintro e w6 ⟨rfl, hA6, hK6⟩
                have HZ := (show Hid (cntA (setAll (setAll (offs m) true L) false L) = 0) from set_reset m L HL.out)
                go_wp2_with (first | (go_at_call 9; refine (err_any _ _).mono ?_; rintro e w' ⟨rfl, rfl⟩) | (go_at_call 19; refine (bcount_any _ _ _ _ hA6).mono ?_; rw [HZ.out]; rintro e w' ⟨rfl, rfl⟩))
                refine (bset_yes b g 0 true _ none [] w6 hA6 (IntsAt.nil _ _) (fun _ a e => by cases e) (by simp) rfl).mono ?_
                rintro e w7 ⟨rfl, hA7, hK7⟩
                go_wp2_with (first | (go_at_call 9; refine (err_any _ _).mono ?_; rintro e w' ⟨rfl, rfl⟩) | (go_at_call 10; refine (awake2_any _).mono ?_; rintro e w8 ⟨rfl, hK8⟩))
                go_ret
                have k7 : Keep [g] w w8 := (((((HK.out.trans hK2).mono (by simp)).trans hK5).trans hK6).trans hK7).trans (hK8.mono (by simp))
                exact ⟨rfl, k7.drop (by simp; omega)⟩
          · go_wp2_with (first | (at_builtin; refine append_ints rfl (.tmp 63) (.tmp 64) 31 rfl w1.heap.size 3 i0 Try.underlying31 hI.out _ 0 [] L rfl (own_base (own_empty wr 3) hszr) la L.length lc rfl rfl (HI.out.keep (Keep.alloc [] _ _) (fun _ _ _ => by simp)) HC.out (by omega) (by simp; omega) ?_; intro v5 w5 hown5 hgrow5; rw [List.nil_append] at hown5; have hK5 := (hK2.trans (Keep.alloc [] _ _)).grown hgrow5 (fun k e => by cases e; exact hszr); have hsz5 := hK5.size; clear hgrow5) | (at_builtin; refine append_ints rfl (.tmp 65) (.tmp 67) 31 rfl w1.heap.size 3 i0 Try.underlying31 hI.out _ (0 + L.length) L [odd] rfl (hown5.alloc _) (some ⟨w5.heap.size, 0, none⟩) 1 1 rfl rfl (IntsAt.one w5 3 odd (by omega) (by omega)) (fun e => by cases e) (by omega) (by simp; omega) ?_; intro v6 w6 hown6 hgrow6; have hK6 := (hK5.trans (Keep.alloc [] _ _)).grown hgrow6 (own_block hown5); obtain ⟨g6, c6, rfl, hg6, hg7, hI6⟩ := own_snoc hown6 (app_bd HB.out (by omega) (by omega)); clear hown5 hown6 hgrow6))
            · have HF6 := (show Hid (fitsB (offs m).length (L ++ [odd]) = false) from app_unfit L _ (by rw [offs_length]; omega))
              have HI6 := (show Hid (IntsAt w6 (some ⟨g6, 0, none⟩) (L ++ [odd])) from hI6)
              have hA6 := HA.out.keep hK6 (by simp) (by simp)
              clear hA2 hI6
              have HZ := (show Hid (cntA (offs m) = 0) from cntA_offs m)
              refine (bset_no' b g c6 (L.length + 1) true _ _ (L ++ [odd]) w6 (by simp) hA6 HI6.out (by omega) HF6.out).mono ?_
              rintro e w7 ⟨rfl, rfl⟩
              go_wp2_with (first | (go_at_call 9; refine (err_any _ _).mono ?_; rintro e w' ⟨rfl, rfl⟩) | (go_at_call 19; refine (bcount_any _ _ _ _ hA6).mono ?_; rw [HZ.out]; rintro e w' ⟨rfl, rfl⟩) | (go_at_call 10; refine (awake2_any _).mono ?_; rintro e w8 ⟨rfl, hK8⟩))
              go_ret
              exact ⟨rfl, (HK.out.trans hK6).trans hK8⟩

end Go.Proofs.Ytlknacpnckiklaa

namespace Go.Proofs.Ytlknacpnckiklaa.bitsWhole
open Go.RowKit
theorem walk (o0 : Option Addr) (len0 cap0 : Nat) (A0 : Nat → Nat) (a1 a2 : Int) (a3 : Bool) (w0 : len0 ≤ 9223372036854775807) (w1 : (Lit.int .u8 a1).wf = true) (w2 : (Lit.int .i64 a2).wf = true) (w : World) (u0 : U8At w o0 len0 A0) :
    Calls Try.prog 5 #[.slice o0 len0 cap0, .int .u8 a1, .int .i64 a2, .bool a3] w fun e w' => e = .returned (.bool true) ∧ Keep [] w w' := by
  have h1 := bounds_u8 w1
  have h2 := bounds_i64 w2
  obtain ⟨f, rfl⟩ := Int.eq_ofNat_of_zero_le h1.1
  exact whole_any o0 len0 cap0 f a2 a3 A0 w w0 u0 (by omega) (by omega) (by omega)
end Go.Proofs.Ytlknacpnckiklaa.bitsWhole
