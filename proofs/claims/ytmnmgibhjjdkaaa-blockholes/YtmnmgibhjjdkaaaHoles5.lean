/-
  BlockHoles answers true, whatever it is given.
-/
import Derived.Test.YtmnmgibhjjdkaaaFills5
import Derived.Test.YtmnmgibhjjdkaaaOpens
namespace Go.Proofs.Ytmnmgibhjjdkaaa
open Go.RowKit

/-- What is so is not so. -/
def inv (fs : List Bool) : List Bool := fs.map (fun x => !x)
theorem inv_length (fs : List Bool) : (inv fs).length = fs.length := by simp [inv]
theorem inv_get (fs : List Bool) (t : Nat) (h : t < fs.length) : (inv fs)[t]?.getD false = !(fs[t]?.getD false) := by simp [inv, h]
theorem inv_offs (m : Nat) : inv (offs m) = upTo m m := by
  refine beq_of_getD (by rw [inv_length, offs_length, upTo_length]) (fun t => ?_)
  rw [upTo_get _ _ _ (Nat.le_refl _)]
  by_cases h : t < m
  · rw [inv_get _ _ (by rw [offs_length]; exact h), offs_get]; simp [h]
  · rw [List.getElem?_eq_none (by rw [inv_length, offs_length]; omega)]; simp [h]
theorem inv_set (fs : List Bool) (k : Nat) : inv (fs.set k true) = (inv fs).set k false := by simp [inv, List.map_set]
theorem inv_has (fs : List Bool) (k : Nat) (h : k < fs.length) : hasR (inv fs) k = !(fs[k]?.getD false) := by
  rw [has_nat _ _ (by rw [inv_length]; exact h), inv_get _ _ h]
theorem inv_give0 (fs : List Bool) (k : Nat) (h : k < fs.length) (hk : fs[k]?.getD false = false) : gvR (inv fs) k = inv (fs.set k true) ∧ gvE (inv fs) k = 0 := by
  obtain ⟨e1, e2⟩ := gv_yes (inv fs) k (by rw [inv_has _ _ h, hk]; rfl)
  exact ⟨by rw [e2, inv_set], e1⟩
theorem set_self (fs : List Bool) (k : Nat) (h : k < fs.length) (v : Bool) (hk : fs[k]?.getD false = v) : fs.set k v = fs := by
  refine beq_of_getD (List.length_set ..) (fun t => ?_)
  by_cases e : k = t
  · subst e; rw [bset_same _ _ _ h, hk]
  · rw [bset_other _ _ _ _ e]
theorem inv_give1 (fs : List Bool) (k : Nat) (h : k < fs.length) (hk : fs[k]?.getD false = true) : gvR (inv fs) k = inv (fs.set k true) ∧ gvE (inv fs) k = 2 := by
  obtain ⟨e1, e2⟩ := gv_no (inv fs) k (by rw [inv_has _ _ h, hk]; rfl)
  exact ⟨by rw [e2, set_self fs k h true hk], e1⟩
theorem cntP (xs : List Bool) : cntA xs = xs.countP (fun x => x) := by unfold cntA cnt; rw [List.take_of_length_le (Nat.le_refl _)]
theorem inv_count (fs : List Bool) : cntA (inv fs) + cntA fs = fs.length := by
  rw [cntP, cntP]
  induction fs with
  | nil => rfl
  | cons x fs ih =>
    have e : inv (x :: fs) = (!x) :: inv fs := rfl
    rw [e, List.countP_cons, List.countP_cons, List.length_cons]
    cases x <;> simp only [Bool.not_false, Bool.not_true, if_true, Bool.false_eq_true, if_false] <;> omega

/-- Of what was given, the first q places are taken again. -/
def zs (fs : List Bool) (q : Nat) : List Bool := putR (inv fs) 0 q true
theorem zs_length (fs : List Bool) (q : Nat) : (zs fs q).length = fs.length := by unfold zs; rw [putR_length, inv_length]
theorem zs_in (fs : List Bool) (q t : Nat) (h : q ≤ fs.length) (ht : t < q) : (zs fs q)[t]?.getD false = true :=
  putR_in _ _ _ _ (by rw [inv_length]; omega) _ (by omega) (by omega)
theorem zs_out (fs : List Bool) (q t : Nat) (h : q ≤ fs.length) (ht : q ≤ t) (hl : t < fs.length) : (zs fs q)[t]?.getD false = !(fs[t]?.getD false) :=
  (putR_out _ _ _ _ (by rw [inv_length]; omega) _ (by omega)).trans (inv_get _ _ hl)
theorem zs_next (fs : List Bool) (q : Nat) (h : q < fs.length) (hq : fs[q]?.getD false = true) : nextR (zs fs q) 0 false = q :=
  nextR_is _ _ _ _ (by omega) (by rw [zs_length]; exact h) (by rw [zs_out _ _ _ (by omega) (by omega) h, hq]; rfl) (fun t _ b => by rw [zs_in _ _ _ (by omega) b]; simp)
theorem zs_yes (fs : List Bool) (q : Nat) : (zs fs q).set q true = zs fs (q + 1) := by
  unfold zs; rw [putR_succ, Nat.zero_add]
theorem zs_no (fs : List Bool) (q : Nat) (h : q < fs.length) (hq : fs[q]?.getD false = false) : zs fs q = zs fs (q + 1) := by
  rw [← zs_yes]
  exact (set_self _ _ (by rw [zs_length]; exact h) true (by rw [zs_out _ _ _ (by omega) (by omega) h, hq]; rfl)).symm
theorem zs_all (fs : List Bool) : allB (zs fs fs.length) = true := by
  unfold allB
  rw [nextR_none _ _ _ (fun t _ b => by rw [zs_length] at b; rw [zs_in _ _ _ (by omega) b]; simp)]
  rfl
theorem zs_none (fs : List Bool) (h : 1 ≤ fs.length) : noneB (zs fs fs.length) = false := by
  unfold noneB
  rw [nextR_is _ true 0 0 (by omega) (by rw [zs_length]; omega) (zs_in _ _ _ (by omega) (by omega)) (fun t _ b => by omega)]
  rfl

set_option maxRecDepth 100000 in
set_option maxHeartbeats 4000000 in
theorem holes5_any (k : Nat) (ao : Option Addr) (n cp : Nat) (A : Nat → Nat) (w : World) (hk : k < 256) (hn : n ≤ 9223372036854775807) (hl : U8At w ao n A) :
    Calls Try.prog 5 #[.int .u8 k, .slice ao n cp] w fun e w' => e = .returned (.bool true) ∧ Keep [] w w' := by
  obtain ⟨c, hc1, hc2⟩ : ∃ c : Nat, (k : Int) % 5 = c ∧ c < 5 := ⟨k % 5, by omega, by omega⟩
  obtain ⟨s, m, hs, hm, hq1, hq2, -, hs1, hm1, hm2, hs2⟩ := room_facts c hc2
  have HN := (show Hid (U8At w ao n A) from hl)
  have HX := (show Hid (∀ i, i < m → nextR (upTo m i) 0 false = i) from upTo_next m)
  have hm0 : (m : Int) ≠ 0 := by omega
  have hmk : ∀ w, (Instr.makeSlice 33 (.int .i64 (m : Int)) (.int .i64 (m : Int))).run Try.prog w = .ok (.slice (some ⟨w.heap.size, 0, none⟩) m m) (w.alloc (.cells (madeCells #[.bool false] m) 4)) :=
    fun w => run_make_row' (P := Try.prog) 33 4 (.bool false) 1 Try.underlying33 Try.infoBool rfl .i64 .i64 m (by omega) (by omega) w
  clear hl
  go_enter Try.func5, Try.ntmps5
  go_wp2_with fail
  refine (knew_ok c w hc2).mono ?_
  rw [hs, hm]
  rintro e w1 ⟨pb, b, g, rfl, hA, hK, hp, hb, hg⟩
  have hc := hA.cell
  go_wp2_with (first | (go_at_call 8; refine (err_any _ _).mono ?_; rintro e w' ⟨rfl, rfl⟩) | (go_at_call 19; refine (kwords_any _ _ _ _ _ _ hA).mono ?_; rintro e w' ⟨rfl, rfl⟩))
  go_loopw [8] (fun i wr => ∃ q : Nat, i = .int .i64 q ∧ q ≤ m ∧ IsPage wr pb b g s (upTo m q) ∧ Keep [g] w wr) (fun i _ => m - (intOf i).toNat)
  case atStart => exact ⟨0, rfl, by omega, hA, hK.mono (by simp)⟩
  case round =>
    obtain ⟨q, rfl, hq, hA4, hK4⟩ := hrel
    clear hA hK hc
    by_cases hlt : q < m
    · have HU := (show Hid ((upTo m q).set q true = upTo m (q + 1)) from upTo_succ m q)
      go_wp2_with (go_at_call 11; refine (ktake_yes pb b g q s _ _ hA4 (HX.out q hlt) (by rw [upTo_length]; exact hlt)).mono ?_; rw [HU.out]; rintro e w5 ⟨rfl, hA5, hK5⟩)
      go_roundw
      case rel => exact ⟨q + 1, by go_num, by omega, hA5, hK4.trans hK5⟩
      case measure => simp [intOf]; omega
    · obtain rfl : q = m := by omega
      rw [← inv_offs] at hA4
      go_wp2_with fail
      have hR := BRow.made wr 4 q
      have hKa := Keep.alloc [] wr (.cells (madeCells #[.bool false] q) 4)
      have hA5 := hA4.keep hKa (by simp) (by simp) (by simp)
      have hK5 := hK4.trans (hKa.mono (T := [g]) (by simp))
      have lt4 := hA4.lt
      have sz4 := hK4.size
      clear hA4 hK4 hKa HX hmk
      generalize wr.alloc (.cells (madeCells #[.bool false] q) 4) = w2 at *
      generalize wr.heap.size = gf at *
      clear wr
      go_loopw [10, 11] (fun h i wr => ∃ (j : Nat) (fs : List Bool), i = .int .i64 j ∧ h = .int .i64 (cntA fs) ∧ j ≤ n ∧ j ≤ 40 ∧ Hid (fs.length = q) ∧ IsPage wr pb b g s (inv fs) ∧ BRow wr 4 gf fs ∧ Keep [g, gf] w wr) (fun _ i _ => 40 - (intOf i).toNat)
      case atStart => exact ⟨0, _, rfl, by rw [cntA_offs]; rfl, by omega, by omega, offs_length q, hA5, hR, hK5.mono (by simp)⟩
      case round =>
        obtain ⟨j, fs, rfl, rfl, hj, hj40, HL, hA6, hR6, hK6⟩ := hrel
        clear hA5 hR hK5
        have hq1 := cntA_le fs
        rw [HL.out] at hq1
        by_cases hlt2 : j < n ∧ j < 40
        · obtain ⟨hjn, hj4⟩ := hlt2
          obtain ⟨ab, off, rfl, hab, hc⟩ := HN.out.cells (by omega)
          have hx := (hK6.cell hab (by simp; omega) (off + j)).trans (hc j hjn)
          have hAj := HN.out.lt j
          obtain ⟨x, hx1, hx2, hx3⟩ := rem_facts (A j) q (by omega)
          generalize A j = av at *
          have hxl : x < fs.length := by rw [HL.out]; exact hx3
          have hcx := hR6.cell hxl
          clear hc
          have HC := (show Hid (cntA (inv (fs.set x true)) + cntA (fs.set x true) = q) from by show _ = _; rw [inv_count, List.length_set, HL.out])
          have HS := (show Hid (cntA (fs.set x true) = cntA fs + if fs[x]?.getD false = true then 0 else 1) from cntA_set fs x hxl)
          have HH := (show Hid (hasR (inv (fs.set x true)) x = false) from by show _ = _; rw [inv_has _ _ (by rw [List.length_set]; exact hxl), bset_same _ _ _ hxl]; rfl)
          have HY := (show Hid ((fs.set x true).length = q) from (List.length_set ..).trans HL.out)
          have hq3 := cntA_le (fs.set x true)
          rw [HY.out] at hq3
          generalize hys : fs.set x true = ys at *
          have HYS := (show Hid (fs.set x true = ys) from hys)
          obtain ⟨ci, hci⟩ : ∃ ci, cntA (inv ys) = ci := ⟨_, rfl⟩
          obtain ⟨cy, hcy⟩ : ∃ cy, cntA ys = cy := ⟨_, rfl⟩
          obtain ⟨cf, hcf⟩ : ∃ cf, cntA fs = cf := ⟨_, rfl⟩
          have HCI := (show Hid (cntA (inv ys) = ci) from hci)
          have HCY := (show Hid (cntA ys = cy) from hcy)
          have hJ : (q : Int) - cy = ci := by have := HC.out; omega
          rw [hcf] at hq1 ⊢
          rw [hcy] at hq3
          have hF := (show Hid (BRow wr 4 gf fs) from hR6)
          cases hv : fs[x]?.getD false
          · obtain ⟨e1, e2⟩ := inv_give0 fs x hxl hv
            have HE1 := (show Hid (gvR (inv fs) x = inv ys) from by show _ = _; rw [e1, hys])
            have HE2 := (show Hid (gvE (inv fs) x = 0) from e2)
            have hI : (cf : Int) + 1 = cy := by have := HS.out; rw [hv, if_neg (by simp)] at this; omega
            clear e1 e2 HS hys hci hcy hcf HC hcx
            go_wp2_with fail
            refine (kgive_any pb b g x s _ _ hA6).mono ?_
            rw [HE1.out, HE2.out]
            rintro e w5 ⟨rfl, hA7, hK7⟩
            have hR7 := hF.out.keep hK7 (by simp; omega)
            have y1 := hR7.cell hxl
            rw [hv] at y1
            have y2 := hR7.free x
            have hR8 := hR7.put x true
            rw [HYS.out] at hR8
            have hKs : Keep [gf] w5 (w5.setCell ⟨gf, x, none⟩ (.bool true)) := Keep.setCell _ _ (by simp)
            have hA8 := hA7.keep hKs (by simp; omega) (by simp; omega) (by simp; omega)
            have hc8 := hA8.cell
            have hK8 := (hK6.trans (hK7.mono (by simp))).trans (hKs.mono (T := [g, gf]) (by simp))
            clear hR7 hA7 hK7 hKs hK6 hA6 hF hR6 hx
            go_wp2_with (first | (go_at_call 8; refine (err_any _ _).mono ?_; rintro e w' ⟨rfl, rfl⟩) | (go_at_call 21; refine (bhas_any b g x _ _ hA8.bits).mono ?_; rw [HH.out]; rintro e w' ⟨rfl, rfl⟩) | (go_at_call 18; refine (bcount_any b g _ _ hA8.bits).mono ?_; rw [HCI.out]; rintro e w' ⟨rfl, rfl⟩))
            go_roundw
            case rel => exact ⟨j + 1, ys, by go_num, by rw [HCY.out, ← hI], by omega, by omega, HY, hA8, hR8, hK8⟩
            case measure => simp [intOf]; omega
          · obtain ⟨e1, e2⟩ := inv_give1 fs x hxl hv
            have HE1 := (show Hid (gvR (inv fs) x = inv ys) from by show _ = _; rw [e1, hys])
            have HE2 := (show Hid (gvE (inv fs) x = 2) from e2)
            have hI : cf = cy := by have := HS.out; rw [hv, if_pos rfl] at this; omega
            clear e1 e2 HS hys hci hcy hcf HC hcx
            subst hI
            go_wp2_with fail
            refine (kgive_any pb b g x s _ _ hA6).mono ?_
            rw [HE1.out, HE2.out]
            rintro e w5 ⟨rfl, hA7, hK7⟩
            have hR7 := hF.out.keep hK7 (by simp; omega)
            have y1 := hR7.cell hxl
            rw [hv] at y1
            have y2 := hR7.free x
            have hR8 := hR7.put x true
            rw [HYS.out] at hR8
            have hKs : Keep [gf] w5 (w5.setCell ⟨gf, x, none⟩ (.bool true)) := Keep.setCell _ _ (by simp)
            have hA8 := hA7.keep hKs (by simp; omega) (by simp; omega) (by simp; omega)
            have hc8 := hA8.cell
            have hK8 := (hK6.trans (hK7.mono (by simp))).trans (hKs.mono (T := [g, gf]) (by simp))
            clear hR7 hA7 hK7 hKs hK6 hA6 hF hR6 hx
            go_wp2_with (first | (go_at_call 8; refine (err_any _ _).mono ?_; rintro e w' ⟨rfl, rfl⟩) | (go_at_call 21; refine (bhas_any b g x _ _ hA8.bits).mono ?_; rw [HH.out]; rintro e w' ⟨rfl, rfl⟩) | (go_at_call 18; refine (bcount_any b g _ _ hA8.bits).mono ?_; rw [HCI.out]; rintro e w' ⟨rfl, rfl⟩))
            go_roundw
            case rel => exact ⟨j + 1, ys, by go_num, by rw [HCY.out], by omega, by omega, HY, hA8, hR8, hK8⟩
            case measure => simp [intOf]; omega
        · have HZ := (show Hid (inv fs = zs fs 0) from (putR_zero _ _ _).symm)
          have HA := (show Hid (allB (zs fs q) = true) from by have := zs_all fs; rw [HL.out] at this; exact this)
          have HO := (show Hid (noneB (zs fs q) = false) from by have := zs_none fs (by rw [HL.out]; omega); rw [HL.out] at this; exact this)
          rw [HZ.out] at hA6
          have hgl : gf < wr.heap.size := hR6.lt
          have HF := (show Hid (∀ t, t < q → wr.cell? ⟨gf, t, none⟩ = some (.bool (fs[t]?.getD false))) from fun t ht => hR6.cell (by rw [HL.out]; exact ht))
          have hK7 : Keep [g] w wr := hK6.drop (by simp; omega)
          clear hR6 hK6
          rcases (show j = n ∨ j < n ∧ j = 40 by omega) with rfl | ⟨hjn, rfl⟩
          all_goals
            go_wp2_with fail
            obtain ⟨w3, rfl⟩ : ∃ w3, w3 = wr := ⟨_, rfl⟩
            go_loopw [14] (fun i wr => ∃ t : Nat, i = .int .i64 t ∧ t ≤ q ∧ IsPage wr pb b g s (zs fs t) ∧ Keep [g] w3 wr) (fun i _ => q - (intOf i).toNat)
            case atStart => exact ⟨0, rfl, by omega, hA6, Keep.refl _ _⟩
            case round =>
              obtain ⟨t, rfl, ht, hA8, hK8⟩ := hrel
              clear hA6
              by_cases htq : t < q
              · have hx := (hK8.cell hgl (by simp; omega) t).trans (HF.out t htq)
                have htl : t < fs.length := by rw [HL.out]; exact htq
                cases hv : fs[t]?.getD false
                · have HU := (show Hid (zs fs t = zs fs (t + 1)) from zs_no fs t htl hv)
                  rw [hv] at hx
                  rw [HU.out] at hA8
                  clear hv
                  go_wp2_with fail
                  go_roundw
                  case rel => exact ⟨t + 1, by go_num, by omega, hA8, hK8⟩
                  case measure => simp [intOf]; omega
                · have HU := (show Hid ((zs fs t).set t true = zs fs (t + 1)) from zs_yes fs t)
                  have HV := (show Hid (nextR (zs fs t) 0 false = t) from zs_next fs t htl hv)
                  rw [hv] at hx
                  clear hv
                  go_wp2_with fail
                  refine (ktake_yes pb b g t s _ _ hA8 HV.out (by rw [zs_length, HL.out]; exact htq)).mono ?_
                  rw [HU.out]
                  rintro e w5 ⟨rfl, hA9, hK9⟩
                  have hK10 := hK8.trans hK9
                  clear hA8 hK8 hK9 hx
                  go_wp2_with (first | (go_at_call 8; refine (err_any _ _).mono ?_; rintro e w' ⟨rfl, rfl⟩))
                  go_roundw
                  case rel => exact ⟨t + 1, by go_num, by omega, hA9, hK10⟩
                  case measure => simp [intOf]; omega
              · obtain rfl : t = q := by omega
                have hK9 := (hK7.trans hK8).drop (T := []) (by simp; omega)
                clear hK7 hK8
                go_wp2_with (first | (go_at_call 17; refine (kfull_any _ _ _ _ _ _ hA8).mono ?_; rw [HA.out]; rintro e w' ⟨rfl, rfl⟩) | (go_at_call 15; refine (kempty_any _ _ _ _ _ _ hA8).mono ?_; rw [HO.out]; rintro e w' ⟨rfl, rfl⟩) | (go_at_call 9; refine (awake5_any _).mono ?_; rintro e wq ⟨rfl, hKq⟩))
                go_ret
                exact ⟨rfl, hK9.trans hKq⟩

end Go.Proofs.Ytmnmgibhjjdkaaa

namespace Go.Proofs.Ytmnmgibhjjdkaaa.blockHoles
open Go.RowKit
theorem walk (a0 : Int) (o1 : Option Addr) (len1 cap1 : Nat) (A1 : Nat → Nat) (w0 : (Lit.int .u8 a0).wf = true) (w1 : len1 ≤ 9223372036854775807) (w : World) (u1 : U8At w o1 len1 A1) :
    Calls Try.prog 5 #[.int .u8 a0, .slice o1 len1 cap1] w fun e w' => e = .returned (.bool true) ∧ Keep [] w w' := by
  have h0 := bounds_u8 w0
  obtain ⟨k, rfl⟩ := Int.eq_ofNat_of_zero_le h0.1
  exact holes5_any k o1 len1 cap1 A1 w (by omega) w1 u1
end Go.Proofs.Ytmnmgibhjjdkaaa.blockHoles
