/-
  ClassOf: what is told one by one is what is told as a list; two tables do not touch one another.
-/
import Derived.Test.YtfmfnmpibnddmabAwake7
import Derived.Test.YtfmfnmpibnddmabOpens
import Derived.Deep.CutRange
namespace Go.Proofs.Ytfmfnmpibnddmab.classOf
open Go.RowKit

/-- The first j numbers that are told. -/
def told (A : Nat → Nat) (j : Nat) : List Int := (List.range j).map (fun i => ((A i % 50 : Nat) : Int))
theorem told_succ (A : Nat → Nat) (j : Nat) : told A (j + 1) = told A j ++ [((A j % 50 : Nat) : Int)] := by
  unfold told; rw [List.range_succ, List.map_append]; rfl
theorem told_length (A : Nat → Nat) (j : Nat) : (told A j).length = j := by simp [told]
theorem told_bd (A : Nat → Nat) (j : Nat) : ∀ i : Nat, -9223372036854775808 ≤ (told A j)[i]?.getD 0 ∧ (told A j)[i]?.getD 0 ≤ 9223372036854775807 := by
  intro i
  unfold told
  by_cases h : i < j
  · simp [h]; omega
  · rw [List.getElem?_eq_none (by simp; omega)]; simp
theorem sole {f : Int} {L : List Int} : ([] ++ [(f, L)] : List (Int × List Int))[0]? = some (f, L) := rfl

set_option maxRecDepth 100000 in
set_option maxHeartbeats 6400000 in
theorem of_any (f : Int) (ao : Option Addr) (n cp : Nat) (A : Nat → Nat) (w : World) (hf : 0 ≤ f ∧ f ≤ 255) (hn : n ≤ 9223372036854775807) (hl : U8At w ao n A) :
    Calls Try.prog 8 #[.int .u8 f, .slice ao n cp] w fun e w' => e = .returned (.bool true) ∧ Keep [] w w' := by
  obtain ⟨i0, hi, hz0, hz1, hz2⟩ := info_parts Try.infoIntC
  have hI : Hid (Try.prog.info? 3 = some i0 ∧ i0.zero = some (.int .i64 0) ∧ i0.size = 1 ∧ i0.bytes = 8) := ⟨hi, hz0, hz1, hz2⟩
  clear hi hz0 hz1 hz2
  have HU := (show Hid (U8At w ao n A) from hl)
  clear hl
  go_enter Try.func8, Try.ntmps8
  go_wp2_with fail
  refine (tnew _).mono ?_
  rintro e w1 ⟨ta, rfl, hTa, hK1, hta⟩
  go_wp2_with fail
  refine (tnew _).mono ?_
  rintro e w2 ⟨tb, rfl, hTb, hK2, htb⟩
  have hTa2 := hTa.keep hK2 (by simp)
  have hla : ta < w1.heap.size := hTa.lt ta (by simp)
  have hlb : tb < w2.heap.size := hTb.lt tb (by simp)
  have hKw := hK1.trans hK2
  have HTA := (show Hid (IsTab w2 ta [ta] []) from hTa2)
  have HTB := (show Hid (IsTab w2 tb [tb] []) from hTb)
  clear hTa hTa2 hTb
  by_cases hbig : 20 < n
  · have hd : decide ((20 : Int) < (n : Int)) = true := by rw [decide_eq_true_iff]; omega
    go_wp2_with (first | (go_at_call 17; refine (awake7_any _).mono ?_; rintro e we ⟨rfl, hKe⟩))
    go_ret
    exact ⟨rfl, hKw.trans hKe⟩
  · have hd : decide ((20 : Int) < (n : Int)) = false := by rw [decide_eq_false_iff_not]; omega
    have hn20 : n ≤ 20 := by omega
    go_wp2_with fail
    clear hd hbig
    go_loopw [7, 8] (fun v i wr => ∃ (j : Nat) (vv : Value), vv = v ∧ i = .int .i64 j ∧ j ≤ n ∧ Hid (wr.ownsRow w2.heap.size 3 1 v j (ints (told A j))) ∧ Keep [] w2 wr) (fun _ i _ => n - (intOf i).toNat)
    case atStart => exact ⟨0, _, rfl, rfl, by omega, World.ownsRow_nil _ _ _ _, Keep.refl _ _⟩
    case round =>
      obtain ⟨j, v, hvv, rfl, hj, HO, hK⟩ := hrel
      obtain ⟨w3, rfl⟩ : ∃ w3, w3 = wr := ⟨_, rfl⟩
      subst hvv
      by_cases hlt : j < n
      · obtain ⟨b, off, rfl, hbs, hcell⟩ := HU.out.cells (by omega)
        have hc := ((hKw.trans hK).cell hbs (by simp) (off + j)).trans (hcell j hlt)
        have hA := HU.out.lt j
        have HS := (show Hid (told A (j + 1) = told A j ++ [((A j % 50 : Nat) : Int)]) from told_succ A j)
        generalize A j = x at hc hA HS
        obtain ⟨y, hy⟩ : ∃ y : Nat, x % 50 = y := ⟨_, rfl⟩
        rw [hy] at HS
        have hyi : (x : Int) % 50 = y := by omega
        have hyb : y < 50 := by omega
        have hsz3 := hK.size
        clear hcell hy
        go_wp2_with (first | (at_builtin; refine append_ints rfl (.tmp 45) (.tmp 52) 29 rfl w2.heap.size 3 i0 Try.underlying29 hI.out _ j (told A j) [(y : Int)] rfl (HO.out.alloc _) (some ⟨w3.heap.size, 0, none⟩) 1 1 rfl rfl (IntsAt.single w3 3 y (by omega) (by omega)) (fun e => by cases e) (by omega) (by simp; omega) ?_; intro v' w5 hown5 hgrow; have hK5 : Keep [] w2 w5 := (hK.trans (Keep.alloc [] _ _)).grown hgrow (own_block HO.out)))
        have HO5 := (show Hid (w5.ownsRow w2.heap.size 3 1 v' (j + 1) (ints (told A (j + 1)))) from by
          show World.ownsRow _ _ _ _ _ _ _
          rw [HS.out]; exact hown5)
        clear hown5 hgrow HO
        go_roundw
        case rel => exact ⟨j + 1, _, rfl, by go_num, by omega, HO5, hK5⟩
        case measure => simp [intOf]; omega
      · obtain rfl : j = n := by omega
        obtain ⟨la, lc, rfl, hnL, hIL, hoff, hlc⟩ := own_form HO.out (told_bd A j)
        clear HO
        have hKa := hKw.trans hK
        have hsz3 := hK.size
        have hTa3 := HTA.out.keep hK (by simp)
        have hTb3 := HTB.out.keep hK (by simp)
        obtain ⟨L, hL⟩ : ∃ L, told A j = L := ⟨_, rfl⟩
        rw [hL] at hnL hIL
        have HOF := (show Hid (∀ a, la = some a → w2.heap.size ≤ a.block ∧ a.block < w3.heap.size) from hoff)
        have HLC := (show Hid (la = none → lc = 0) from hlc)
        have HNL := (show Hid (L.length = j) from hnL)
        have HIL := (show Hid (IntsAt w3 la L) from hIL)
        have HTA3 := (show Hid (IsTab w3 ta [ta] []) from hTa3)
        have HTB3 := (show Hid (IsTab w3 tb [tb] []) from hTb3)
        have hne : ta ≠ tb := by omega
        clear hoff hlc hnL hIL hL HTA HTB hTa3 hTb3 HU
        cases hm : mayB f L with
        | false =>
          have EN := (show Hid (addN [] f L = 0 ∧ addE [] f L = 1 ∧ addR [] f L = []) from ⟨by simp [addN, hm], by simp [addE, hm], by simp [addR, hm]⟩)
          have HM := (show Hid (mayB f L = false) from hm)
          clear hm
          go_upto_region 10 with (first | (go_at_call 23; refine (tof_any ta [ta] [] f la j lc L _ HTA3.out HIL.out HLC.out HNL.out (by omega)).mono ?_; rw [EN.out.1, EN.out.2.1, EN.out.2.2]; rintro e w4 ⟨rfl, ⟨Fa, hTa4, hFa⟩, hK4⟩; have HIL4 := (show Hid (IntsAt (w4.alloc (.cells #[] 3)) la L) from (HIL.out.keep hK4 (fun _ a e => by have := (HOF.out a e).1; simp; omega)).keep (Keep.alloc [] _ _) (by simp [Off]))))
          go_upto_region 11 with (first | (at_builtin; refine append_ints rfl (.tmp 66) (.tmp 67) 29 rfl w4.heap.size 3 i0 Try.underlying29 hI.out _ 0 [] L rfl (own_empty w4 3) la j lc HNL.out rfl HIL4.out HLC.out (by omega) (by simp) ?_; intro v' w5 hown5 hgrow; rw [Nat.zero_add, List.nil_append] at hown5; have hK5 : Keep [] w4 w5 := (Keep.alloc [] w4 (.cells #[] 3)).grown hgrow (fun k e => by cases e; exact Nat.le_refl _); obtain ⟨lb, lcb, rfl, hnb, hIb, hoffb, hlcb⟩ := own_form hown5 (fun i => ⟨HIL.out.low i, HIL.out.high i⟩); have HTB5 := (show Hid (IsTab w5 tb [tb] []) from (HTB3.out.keep hK4 (by simp; omega)).keep hK5 (by simp)); have HB := (show Hid (IntsAt w5 lb L ∧ (lb = none → lcb = 0)) from ⟨hIb, hlcb⟩); clear hown5 hgrow hnb hIb hoffb hlcb) | (go_at_call 18; refine (tadd_any tb [tb] [] f lb j lcb L _ HTB5.out HB.out.1 HB.out.2 HNL.out (by omega)).mono ?_; rw [EN.out.1, EN.out.2.1, EN.out.2.2]; rintro e w6 ⟨rfl, ⟨Fb, hTb6, hFb⟩, hK6⟩))
          have hs4 := hK4.size
          have hs5 := hK5.size
          have hs6 := hK6.size
          have hTa6 := (hTa4.keep hK5 (by simp)).keep hK6 (fun k hk => by rcases hFa k hk with h | h <;> simp at h ⊢ <;> omega)
          have hI6 := ((HIL.out.keep hK4 (fun _ a e => by have := (HOF.out a e).1; simp; omega)).keep hK5 (by simp [Off])).keep hK6 (fun _ a e => by have := (HOF.out a e).1; simp; omega)
          have hKz : Keep [] w w6 := (((((hKa.mono (T := [ta, tb]) (by simp)).trans (hK4.mono (by simp))).trans (hK5.mono (by simp))).trans (hK6.mono (by simp)))).drop (by have := hK1.size; simp; omega)
          have HTA6 := (show Hid (IsTab w6 ta Fa _) from hTa6)
          have HTB6 := (show Hid (IsTab w6 tb Fb _) from hTb6)
          have HI6 := (show Hid (IntsAt w6 la L) from hI6)
          clear hTa6 hTb6 hI6 hTa4 hFa hFb hK4 hK5 hK6 HIL HTA3 HTB3 HIL4 HTB5 HB EN hKa hK hK1 hK2
          go_upto_region 12 with (first | (go_at_call 20; refine (tclass_no ta Fa [] 1 _ HTA6.out (Or.inr (by decide))).mono ?_; rintro e w7 ⟨rfl, hK7⟩; have hK7a := hK7.trans (Keep.alloc [] w7 (.cells #[.int .i64 0, .slice none 0 0] 47)); have HTB7 := (show Hid (IsTab (w7.alloc (.cells #[.int .i64 0, .slice none 0 0] 47)) tb Fb []) from HTB6.out.keep hK7a (by simp))))
          go_upto_region 13 with (first | (go_at_call 20; refine (tclass_no tb Fb [] 1 _ HTB7.out (Or.inr (by decide))).mono ?_; rintro e w8 ⟨rfl, hK8⟩; have hK8a := (hK7a.trans hK8).trans (Keep.alloc [] w8 (.cells #[.int .i64 0, .slice none 0 0] 47)); have HI8 := (show Hid (IntsAt (w8.alloc (.cells #[.int .i64 0, .slice none 0 0] 47)) la L) from HI6.out.keep hK8a (by simp [Off]))))
          go_wp2_with (first | (go_at_call 19; refine (rmay_any f la j lc L _ HI8.out HNL.out (by omega)).mono ?_; rw [HM.out]; rintro e w9 ⟨rfl, hK9⟩) | (go_at_call 10; refine (err7 _ _).mono ?_; rintro e w' ⟨rfl, rfl⟩) | (go_at_call 17; refine (awake7_any _).mono ?_; rintro e wz ⟨rfl, hKz2⟩))
          go_ret
          exact ⟨rfl, ((hKz.trans hK8a).trans hK9).trans hKz2⟩
        | true =>
          have EN := (show Hid (addN [] f L = 1 ∧ addE [] f L = 0 ∧ addR [] f L = [(f, L)]) from ⟨by simp [addN, hm], by simp [addE, hm], by simp [addR, hm]⟩)
          have HM := (show Hid (mayB f L = true) from hm)
          clear hm
          go_upto_region 10 with (first | (go_at_call 23; refine (tof_any ta [ta] [] f la j lc L _ HTA3.out HIL.out HLC.out HNL.out (by omega)).mono ?_; rw [EN.out.1, EN.out.2.1, EN.out.2.2]; rintro e w4 ⟨rfl, ⟨Fa, hTa4, hFa⟩, hK4⟩; have HIL4 := (show Hid (IntsAt (w4.alloc (.cells #[] 3)) la L) from (HIL.out.keep hK4 (fun _ a e => by have := (HOF.out a e).1; simp; omega)).keep (Keep.alloc [] _ _) (by simp [Off]))))
          go_upto_region 11 with (first | (at_builtin; refine append_ints rfl (.tmp 66) (.tmp 67) 29 rfl w4.heap.size 3 i0 Try.underlying29 hI.out _ 0 [] L rfl (own_empty w4 3) la j lc HNL.out rfl HIL4.out HLC.out (by omega) (by simp) ?_; intro v' w5 hown5 hgrow; rw [Nat.zero_add, List.nil_append] at hown5; have hK5 : Keep [] w4 w5 := (Keep.alloc [] w4 (.cells #[] 3)).grown hgrow (fun k e => by cases e; exact Nat.le_refl _); obtain ⟨lb, lcb, rfl, hnb, hIb, hoffb, hlcb⟩ := own_form hown5 (fun i => ⟨HIL.out.low i, HIL.out.high i⟩); have HTB5 := (show Hid (IsTab w5 tb [tb] []) from (HTB3.out.keep hK4 (by simp; omega)).keep hK5 (by simp)); have HB := (show Hid (IntsAt w5 lb L ∧ (lb = none → lcb = 0)) from ⟨hIb, hlcb⟩); clear hown5 hgrow hnb hIb hoffb hlcb) | (go_at_call 18; refine (tadd_any tb [tb] [] f lb j lcb L _ HTB5.out HB.out.1 HB.out.2 HNL.out (by omega)).mono ?_; rw [EN.out.1, EN.out.2.1, EN.out.2.2]; rintro e w6 ⟨rfl, ⟨Fb, hTb6, hFb⟩, hK6⟩))
          have hs4 := hK4.size
          have hs5 := hK5.size
          have hs6 := hK6.size
          have hTa6 := (hTa4.keep hK5 (by simp)).keep hK6 (fun k hk => by rcases hFa k hk with h | h <;> simp at h ⊢ <;> omega)
          have hI6 := ((HIL.out.keep hK4 (fun _ a e => by have := (HOF.out a e).1; simp; omega)).keep hK5 (by simp [Off])).keep hK6 (fun _ a e => by have := (HOF.out a e).1; simp; omega)
          have hKz : Keep [] w w6 := (((((hKa.mono (T := [ta, tb]) (by simp)).trans (hK4.mono (by simp))).trans (hK5.mono (by simp))).trans (hK6.mono (by simp)))).drop (by have := hK1.size; simp; omega)
          have HTA6 := (show Hid (IsTab w6 ta Fa _) from hTa6)
          have HTB6 := (show Hid (IsTab w6 tb Fb _) from hTb6)
          have HI6 := (show Hid (IntsAt w6 la L) from hI6)
          clear hTa6 hTb6 hI6 hTa4 hFa hFb hK4 hK5 hK6 HIL HTA3 HTB3 HIL4 HTB5 HB EN hKa hK hK1 hK2
          go_upto_region 12 with (first | (go_at_call 20; (refine (tclass_at ta 0 Fa [(f, L)] f 1 L _ HTA6.out rfl (by simp) (by omega)).mono ?_; rw [HNL.out]; rintro e w7 ⟨lx, lcx, rfl, HGx, hK7⟩; have hK7a := hK7.trans (Keep.alloc [] w7 (.cells #[.int .i64 f, .slice lx j lcx] 47)); have hx7 := heap_alloc_new w7 (.cells #[.int .i64 f, .slice lx j lcx] 47); have HTB7 := (show Hid (IsTab (w7.alloc (.cells #[.int .i64 f, .slice lx j lcx] 47)) tb Fb [(f, L)]) from HTB6.out.keep hK7a (by simp)))))
          obtain ⟨bc, hbc⟩ : ∃ bc, w7.heap.size = bc := ⟨_, rfl⟩
          rw [hbc] at hx7 ⊢
          have HGX := (show Hid (IntsAt (w7.alloc (.cells #[.int .i64 f, .slice lx j lcx] 47)) lx L) from by
            obtain ⟨_, _, e, h1, _⟩ := HGx
            cases e
            exact h1.keep (Keep.alloc [] _ _) (by simp [Off]))
          clear HGx hbc hK7
          generalize w7.alloc (.cells #[.int .i64 f, .slice lx j lcx] 47) = w7a at *
          go_upto_region 13 with (first | (go_at_call 20; refine (tclass_at tb 0 Fb [(f, L)] f 1 L _ HTB7.out rfl (by simp) (by omega)).mono ?_; rw [HNL.out]; rintro e w8 ⟨ly, lcy, rfl, HGy, hK8⟩; have hK8a := hK8.trans (Keep.alloc [] w8 (.cells #[.int .i64 f, .slice ly j lcy] 47)); have hy8 := heap_alloc_new w8 (.cells #[.int .i64 f, .slice ly j lcy] 47)))
          obtain ⟨bd, hbd⟩ : ∃ bd, w8.heap.size = bd := ⟨_, rfl⟩
          rw [hbd] at hy8 ⊢
          have HGY := (show Hid (IntsAt (w8.alloc (.cells #[.int .i64 f, .slice ly j lcy] 47)) ly L) from by
            obtain ⟨_, _, e, h1, _⟩ := HGy
            cases e
            exact h1.keep (Keep.alloc [] _ _) (by simp [Off]))
          clear HGy hbd hK8
          generalize w8.alloc (.cells #[.int .i64 f, .slice ly j lcy] 47) = w8a at *
          have hK78 := hK7a.trans hK8a
          have HI8 := (show Hid (IntsAt w8a la L) from HI6.out.keep hK78 (by simp [Off]))
          have HGX8 := (show Hid (IntsAt w8a lx L) from HGX.out.keep hK8a (by simp [Off]))
          have HTA8 := (show Hid (IsTab w8a ta Fa [(f, L)]) from HTA6.out.keep hK78 (by simp))
          have HTB8 := (show Hid (IsTab w8a tb Fb [(f, L)]) from HTB7.out.keep hK8a (by simp))
          have hx8 := hK8a.blk hx7 (by simp)
          clear hx7 HTA6 HTB6 HTB7 HI6 HGX
          go_wp2_with (first | (go_at_call 19; refine (rmay_any f la j lc L _ HI8.out HNL.out (by omega)).mono ?_; rw [HM.out]; rintro e w9 ⟨rfl, hK9⟩; have hx9 := hK9.blk hx8 (by simp); have hy9 := hK9.blk hy8 (by simp); have c0 : w9.cell? ⟨bc, 0, none⟩ = some (.int .i64 f) := (by simp [World.cell?, hx9]); have c1 : w9.cell? ⟨bc, 1, none⟩ = some (.slice lx j lcx) := (by simp [World.cell?, hx9]); have d0 : w9.cell? ⟨bd, 0, none⟩ = some (.int .i64 f) := (by simp [World.cell?, hy9])) | (go_at_call 10; refine (err7 _ _).mono ?_; rintro e w' ⟨rfl, rfl⟩))
          refine (same_eq lx la j lcx lc L _ (HGX8.out.keep hK9 (by simp [Off])) (HI8.out.keep hK9 (by simp [Off])) HNL.out (by omega)).mono ?_
          rintro e w10 ⟨rfl, hK10⟩
          have hK910 := hK9.trans hK10
          have hy10 := hK910.blk hy8 (by simp)
          have d1 : w10.cell? ⟨bd, 1, none⟩ = some (.slice ly j lcy) := by simp [World.cell?, hy10]
          go_wp2_with fail
          refine (same_eq ly la j lcy lc L _ (HGY.out.keep hK910 (by simp [Off])) (HI8.out.keep hK910 (by simp [Off])) HNL.out (by omega)).mono ?_
          rintro e w11 ⟨rfl, hK11⟩
          have hK911 := hK910.trans hK11
          go_wp2_with fail
          refine (tclasses ta Fa _ _ (HTA8.out.keep hK911 (by simp))).mono ?_
          rintro e w' ⟨rfl, rfl⟩
          go_wp2_with fail
          refine (tclasses tb Fb _ _ (HTB8.out.keep hK911 (by simp))).mono ?_
          rintro e w' ⟨rfl, rfl⟩
          go_wp2_with (first | (go_at_call 17; refine (awake7_any _).mono ?_; rintro e wz ⟨rfl, hKz2⟩))
          go_ret
          exact ⟨rfl, ((hKz.trans hK78).trans hK911).trans hKz2⟩

theorem walk (a0 : Int) (o1 : Option Addr) (len1 cap1 : Nat) (A1 : Nat → Nat) (w0 : (Lit.int .u8 a0).wf = true) (w1 : len1 ≤ 9223372036854775807) (w : World) (u1 : U8At w o1 len1 A1) :
    Calls Try.prog 8 #[.int .u8 a0, .slice o1 len1 cap1] w fun e w' => e = .returned (.bool true) ∧ Keep [] w w' := by
  have := bounds_u8 w0
  exact of_any a0 o1 len1 cap1 A1 w (by omega) w1 u1

end Go.Proofs.Ytfmfnmpibnddmab.classOf
