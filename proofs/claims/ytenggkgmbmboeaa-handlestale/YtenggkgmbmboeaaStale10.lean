/-
  HandleStale: what was dropped is stale for ever, whoever holds its slot since; two that hold have two handles.
-/
import Derived.Test.YtenggkgmbmboeaaAwake10
import Derived.Test.YtenggkgmbmboeaaStaleM
import Derived.Test.YtenggkgmbmboeaaPRow
import Derived.Test.YtenggkgmbmboeaaLists
import Derived.Test.YtenggkgmbmboeaaClass
import Derived.Deep.CutRange
namespace Go.Proofs.Ytenggkgmbmboeaa.handleStale
open Go.RowKit

set_option maxRecDepth 100000 in
set_option maxHeartbeats 6400000 in
theorem core (n m q k j r n0 q0 : Nat) (w : World) (hn : n < 256) (hm : m < 256) (hq : q < 256) (hn0 : (n : Int) % 40 = n0) (hk : (1 : Int) + n0 = k) (hj : (m : Int) % (k : Int) = j) (hjt : (m : Int).tmod (k : Int) = j) (hq0 : (q : Int) % 20 = q0) (hr : (1 : Int) + q0 = r) (hk1 : 1 ≤ k) (hk2 : k ≤ 40) (hjk : j < k) (hr1 : 1 ≤ r) (hr2 : r ≤ 20) :
    Calls Try.prog 4 #[.int .u8 n, .int .u8 m, .int .u8 q] w fun e w' => e = .returned (.bool true) ∧ Keep [] w w' := by
  obtain ⟨i0, hi, hz0, hz1, hz2⟩ := info_parts Try.infoIntC
  have hI : Hid (Try.prog.info? 3 = some i0 ∧ i0.zero = some (.int .i64 0) ∧ i0.size = 1 ∧ i0.bytes = 8) := ⟨hi, hz0, hz1, hz2⟩
  clear hi hz0 hz1 hz2
  go_enter Try.func4, Try.ntmps4
  go_wp2_with fail
  refine (hnew_any _).mono ?_
  rintro e w1 ⟨b, rfl, hI1, hK1, hb⟩
  have hb1 := hI1.lt
  have HKW := (show Hid (Keep [] w w1) from hK1)
  clear hK1
  go_wp2_with fail
  clear hn0 hk
  go_loopw [9, 10] (fun l i wr => ∃ (jn : Nat) (la : Option Addr) (lc : Nat) (xs : List Int), l = .slice la jn lc ∧ i = .int .i64 jn ∧ jn ≤ k ∧ Hid (IsHand wr b xs onesL) ∧ Hid (HOK 0 xs onesL) ∧ Hid (Pref xs jn) ∧ Hid (∀ t : Nat, t < jn → xs[t]?.getD 0 = 100 + (t : Int)) ∧ Hid (wr.ownsRow w1.heap.size 3 1 (.slice la jn lc) jn (ints (upH jn))) ∧ Keep [b] w1 wr) (fun _ i _ => k - (intOf i).toNat)
  case atStart => exact ⟨0, none, 0, zeros 512, rfl, rfl, by omega, hI1, HOK.fresh, Pref.zeros, fun t h => by omega, World.ownsRow_nil _ _ _ _, Keep.refl _ _⟩
  case round =>
    obtain ⟨jn, la, lc, xs, rfl, rfl, hjn, HI, HK, HP, HX, HO, hK⟩ := hrel
    obtain ⟨w2, rfl⟩ : ∃ w2, w2 = wr := ⟨_, rfl⟩
    clear hI1
    by_cases hlt : jn < k
    · have HT := (show Hid (HoldT xs onesL (100 + (jn : Int)) (512 + (jn : Int)) 0 (xs.set jn (100 + (jn : Int)))) from .inr (.inr ⟨by omega, jn, HP.out.free (by omega), by rw [onesL_get jn (by omega)]; omega, rfl, rfl⟩))
      obtain ⟨hIA, _, hla⟩ := own_at HO.out (upH_bd jn (by omega))
      have HLA := (show Hid (IntsAt w2 la (upH jn)) from hIA)
      have hlb : ∀ a, la = some a → w1.heap.size ≤ a.block := fun a e => (hla a e).1
      have HLB := (show Hid (∀ a, la = some a → w1.heap.size ≤ a.block) from hlb)
      clear hIA hla hlb
      go_upto_region 10 with (first | (go_at_call 12; refine (hhold b (100 + (jn : Int)) (512 + (jn : Int)) 0 xs onesL _ _ HI.out HK.out (by omega) (by omega) HT.out).mono ?_; rintro e w3 ⟨rfl, hI3, hK3⟩))
      have HI3 := (show Hid (IsHand w3 b (xs.set jn (100 + (jn : Int))) onesL) from hI3)
      have hK3w := hK.trans hK3
      have HO3 := (show Hid (w3.ownsRow w1.heap.size 3 1 (.slice la jn lc) jn (ints (upH jn))) from own_keep HO.out hK3 (by simp; omega))
      have HLA3 := (show Hid (IntsAt w3 la (upH jn)) from HLA.out.keep hK3 (fun _ a e => by have := HLB.out a e; simp; omega))
      clear hI3 HI HO HLA hK3
      go_upto_region 12 with (first | (go_at_call 14; refine (err_any _ _).mono ?_; rintro e w' ⟨rfl, rfl⟩))
      go_wp2_with fail
      go_loop [13] (fun ii => ∃ p : Nat, ii = .int .i64 p ∧ p ≤ jn) (fun ii => jn - (intOf ii).toNat)
      case atStart => exact ⟨0, rfl, by omega⟩
      case round =>
        obtain ⟨p, rfl, hp⟩ := hrel
        by_cases hpl : p < jn
        · obtain ⟨g, off, rfl, _, hcell⟩ := HLA3.out.cells (by rw [upH_length]; omega)
          have hc := hcell p (by rw [upH_length]; exact hpl)
          rw [upH_get jn p hpl] at hc
          have hne : ((512 : Int) + (p : Int) == 512 + (jn : Int)) = false := by rw [beq_eq_false_iff_ne]; omega
          clear hcell
          go_wp2_with fail
          go_round
          case rel => exact ⟨p + 1, by go_num, by omega⟩
          case measure => simp [intOf]; omega
        · obtain rfl : p = jn := by omega
          have hsz3 := hK3w.size
          have HNB := (show Hid (b ∉ (Value.slice la p lc).ownBlock.toList) from fun e => by have := own_block HO3.out b (by simpa using e); omega)
          go_wp2_with (first | (at_builtin; refine append_ints rfl (.tmp 58) (.tmp 60) 46 rfl w1.heap.size 3 i0 Try.underlying46 hI.out (.slice la p lc) p (upH p) [512 + (p : Int)] rfl (HO3.out.alloc _) (some ⟨w3.heap.size, 0, none⟩) 1 1 rfl rfl (IntsAt.single w3 3 _ (by omega) (by omega)) (fun e => by cases e) (by omega) (by simp; omega) ?_; intro v' w5 hown5 hgrow; have HK5 := (show Hid (Keep [b] w1 w5) from (hK3w.trans (Keep.alloc [b] _ _)).grownS hgrow (own_block HO3.out)); have HI5 := (show Hid (IsHand w5 b (xs.set p (100 + (p : Int))) onesL) from (HI3.out.keep (Keep.alloc [] w3 _) (by simp)).keep (Keep.ofGrown hgrow) HNB.out); obtain ⟨lb, lbc, rfl, _⟩ := own_form hown5 (by rw [← upH_succ]; exact upH_bd _ (by omega)); have HO5 := (show Hid (w5.ownsRow w1.heap.size 3 1 (.slice lb (p + 1) lbc) (p + 1) (ints (upH (p + 1)))) from by show World.ownsRow _ _ _ _ _ _ _; rw [upH_succ]; exact hown5); clear hown5 hgrow))
          go_roundw
          case rel => exact ⟨p + 1, lb, lbc, _, rfl, by go_num, by omega, HI5, HT.out.ok HK.out (by omega), HP.out.set (by rw [HK.out.lx]; omega) _ (by omega), fun t ht => by
            by_cases e : p = t
            · subst e; rw [set_get_same _ _ _ (by rw [HK.out.lx]; omega)]
            · rw [set_get_other _ _ _ _ e]; exact HX.out t (by omega), HO5, HK5.out⟩
          case measure => simp [intOf]; omega
    · obtain rfl : jn = k := by omega
      obtain ⟨g, cap, hsl, hLl, hbg, hPR⟩ := own_prow HO.out (by omega)
      cases hsl
      have HS := (show Hid (St jn j 0 xs onesL (upH jn)) from St.start HK.out HP.out HX.out hjk (by omega))
      have hc0 := hPR.cell (i := j) (by rw [upH_length]; exact hjk)
      rw [upH_get jn j hjk] at hc0
      have hgb : g ≠ b := by omega
      clear HO HX HP HK
      go_upto_region 20 with fail
      have HK2 := (show Hid (Keep [] w w2) from ((HKW.out.mono (by simp)).trans hK).drop (by simp; omega))
      have hgw : w.heap.size ≤ g := by have := HKW.out.size; omega
      have HI2 := (show Hid (IsHand w2 b xs onesL) from HI.out)
      have HPR := (show Hid (PRow w2 3 g (upH jn)) from hPR)
      clear hPR hK HKW HI hc0
      go_wp2_with fail
      go_loopw [16] (fun i wr => ∃ (i1 : Nat) (xs ts L : List Int), i = .int .i64 i1 ∧ i1 ≤ r ∧ Hid (IsHand wr b xs ts) ∧ Hid (St jn j i1 xs ts L) ∧ Hid (PRow wr 3 g L) ∧ Keep [b, g] w2 wr) (fun i _ => r - (intOf i).toNat)
      case atStart => exact ⟨0, _, _, _, rfl, by omega, HI2, HS, HPR, Keep.refl _ _⟩
      case round =>
        obtain ⟨i1, xs, ts, L, rfl, hi1, HI, HS3, HR, hK⟩ := hrel
        obtain ⟨w3, rfl⟩ : ∃ w3, w3 = wr := ⟨_, rfl⟩
        clear HI2 HS HPR
        by_cases hlt3 : i1 < r
        · obtain ⟨xs1, ts1, xs2, hD, hok1, hH, hst, hstale⟩ := HS3.out.step (by omega) hjk
          have hcj := HR.out.cell (i := j) (by rw [HS3.out.len]; exact hjk)
          obtain ⟨y, hy⟩ : ∃ y, L[j]?.getD 0 = y := ⟨_, rfl⟩
          obtain ⟨y2, hy2⟩ : ∃ y2, (j : Int) + 512 * (2 + (i1 : Int)) = y2 := ⟨_, rfl⟩
          rw [hy] at hcj hD
          rw [hy2] at hH hst
          have hok2 := (hst (by omega)).ok
          have HD := (show Hid (DropT xs ts y 0 xs1 ts1) from hD)
          have HOKA := (show Hid (HOK i1 xs ts) from HS3.out.ok)
          have HOK1 := (show Hid (HOK (i1 + 1) xs1 ts1) from hok1)
          have HOK2 := (show Hid (HOK (i1 + 1) xs2 ts1) from hok2)
          have HH := (show Hid (HoldT xs1 ts1 (900 + (i1 : Int)) y2 0 xs2) from hH)
          have HST := (show Hid (St jn j (i1 + 1) xs2 ts1 (L.set j y2)) from hst (by omega))
          have HSTL := (show Hid (Stale xs2 ts1 (512 + (j : Int))) from hstale)
          have hne : (y2 == 512 + (j : Int)) = false := by rw [beq_eq_false_iff_ne]; omega
          have hfg := HR.out.free j
          clear hD hok1 hH hst hstale hok2 hy hy2
          go_upto_region 25 with (first | (go_at_call 15; refine (hdrop b y 0 xs ts _ _ _ HI.out HOKA.out (by omega) HD.out).mono ?_; rintro e w4 ⟨rfl, hI4, hK4⟩) | (go_at_call 14; refine (err_any _ _).mono ?_; rintro e w' ⟨rfl, rfl⟩))
          go_upto_region 26 with (first | (go_at_call 12; refine (hhold b (900 + (i1 : Int)) y2 0 xs1 ts1 _ _ hI4 HOK1.out (by omega) (by omega) HH.out).mono ?_; rintro e w5 ⟨rfl, hI5, hK5⟩))
          go_upto_region 27 with (first | (go_at_call 17; refine (hheld b (512 + (j : Int)) 0 6 xs2 ts1 _ hI5 HOK2.out (by omega) (.inl ⟨HSTL.out, rfl, rfl⟩)).mono ?_; rintro e w' ⟨rfl, rfl⟩))
          go_upto_region 29 with (first | (go_at_call 15; refine (hdrop b (512 + (j : Int)) 6 xs2 ts1 _ _ _ hI5 HOK2.out (by omega) (.inl ⟨HSTL.out, rfl, rfl, rfl⟩)).mono ?_; rintro e w6 ⟨rfl, hI6, hK6⟩) | (go_at_call 14; refine (err_any _ _).mono ?_; rintro e w' ⟨rfl, rfl⟩))
          have hKb := (hK4.trans hK5).trans hK6
          have hR6 := HR.out.keep hKb (by simpa using hgb)
          have hc6 := hR6.cell (i := j) (by rw [HS3.out.len]; exact hjk)
          have hf6 := hR6.free j
          have HR7 := (show Hid (PRow (w6.setCell ⟨g, j, none⟩ (.int .i64 y2)) 3 g (L.set j y2)) from hR6.put j y2)
          have hK7 : Keep [g] w6 (w6.setCell ⟨g, j, none⟩ (.int .i64 y2)) := Keep.setCell _ _ (by simp)
          have HI7 := (show Hid (IsHand (w6.setCell ⟨g, j, none⟩ (.int .i64 y2)) b xs2 ts1) from hI6.keep hK7 (by simpa using hgb.symm))
          have HK7 := (show Hid (Keep [b, g] w2 (w6.setCell ⟨g, j, none⟩ (.int .i64 y2))) from (hK.trans (hKb.mono (by simp))).trans (hK7.mono (by simp)))
          clear hR6 hK7 hKb hI6 hI5 hI4 hK4 hK5 hK6 hK
          go_wp2_with fail
          go_roundw
          case rel => exact ⟨i1 + 1, xs2, ts1, _, by go_num, by omega, HI7, HST, HR7, HK7.out⟩
          case measure => simp [intOf]; omega
        · obtain rfl : i1 = r := by omega
          have hPL := (HS3.out.pref).len (by omega) ts
          have HPL := (show Hid ((allH xs ts).length = jn) from hPL)
          clear hPL
          go_wp2_with fail
          clear hq0 hr
          go_loop [21] (fun i => ∃ (p : Nat), i = .int .i64 p ∧ p ≤ jn) (fun i => jn - (intOf i).toNat)
          case atStart => exact ⟨0, rfl, by omega⟩
          case round =>
            obtain ⟨p, rfl, hp⟩ := hrel
            by_cases hpl : p < jn
            · have HT := (show Hid (HeldT xs ts (L[p]?.getD 0) (xs[p]?.getD 0) 0) from HS3.out.held (by omega) p hpl)
              have hcp := HR.out.cell (i := p) (by rw [HS3.out.len]; exact hpl)
              generalize L[p]?.getD 0 = y at HT hcp
              by_cases hpj : p = j
              · subst hpj
                have hx9 := HS3.out.new (by omega)
                generalize xs[p]?.getD 0 = x0 at HT hx9
                have hd9 : decide (x0 < 900) = false := by rw [decide_eq_false_iff_not]; omega
                go_wp2_with (first | (go_at_call 17; refine (hheld b y x0 0 xs ts _ HI.out HS3.out.ok (by omega) HT.out).mono ?_; rintro e w' ⟨rfl, rfl⟩) | (go_at_call 14; refine (err_any _ _).mono ?_; rintro e w' ⟨rfl, rfl⟩))
                go_round
                case rel => exact ⟨p + 1, by go_num, by omega⟩
                case measure => simp [intOf]; omega
              · have hx9 := HS3.out.old p hpl hpj
                rw [hx9] at HT
                have hb1 : ((p : Int) == (j : Int)) = false := by rw [beq_eq_false_iff_ne]; omega
                have hb2 : (p == j) = false := by rw [beq_eq_false_iff_ne]; exact hpj
                clear hx9
                go_wp2_with (first | (go_at_call 17; refine (hheld b y (100 + (p : Int)) 0 xs ts _ HI.out HS3.out.ok (by omega) HT.out).mono ?_; rintro e w' ⟨rfl, rfl⟩) | (go_at_call 14; refine (err_any _ _).mono ?_; rintro e w' ⟨rfl, rfl⟩))
                go_round
                case rel => exact ⟨p + 1, by go_num, by omega⟩
                case measure => simp [intOf]; omega
            · obtain rfl : p = jn := by omega
              go_wp2_with (first | (go_at_call 22; refine (hall b xs ts _ HI.out HS3.out.ok (by omega)).mono ?_; rw [HPL.out]; rintro e w7 ⟨va, vc, rfl, hHe, hK7⟩) | (go_at_call 9; refine (awake10_any _).mono ?_; rintro e w8 ⟨rfl, hK8⟩))
              go_ret
              exact ⟨rfl, ((HK2.out.mono (T := [b, g]) (by simp)).trans (hK.trans ((hK7.trans hK8).mono (by simp)))).drop (by simp; omega)⟩

theorem walk (a0 a1 a2 : Int) (w0 : (Lit.int .u8 a0).wf = true) (w1 : (Lit.int .u8 a1).wf = true) (w2 : (Lit.int .u8 a2).wf = true) (w : World) :
    Calls Try.prog 4 #[.int .u8 a0, .int .u8 a1, .int .u8 a2] w fun e w' => e = .returned (.bool true) ∧ Keep [] w w' := by
  have h0 := bounds_u8 w0
  have h1 := bounds_u8 w1
  have h2 := bounds_u8 w2
  obtain ⟨n, rfl⟩ := Int.eq_ofNat_of_zero_le h0.1
  obtain ⟨m, rfl⟩ := Int.eq_ofNat_of_zero_le h1.1
  obtain ⟨q, rfl⟩ := Int.eq_ofNat_of_zero_le h2.1
  have hm : m % (1 + n % 40) < 1 + n % 40 := Nat.mod_lt _ (by omega)
  exact core n m q (1 + n % 40) (m % (1 + n % 40)) (1 + q % 20) (n % 40) (q % 20) w (by omega) (by omega) (by omega) (by omega) (by omega) rfl (by rw [Int.tmod_eq_emod_of_nonneg (by omega)]; rfl) (by omega) (by omega) (by omega) (by omega) hm (by omega) (by omega)

end Go.Proofs.Ytenggkgmbmboeaa.handleStale
