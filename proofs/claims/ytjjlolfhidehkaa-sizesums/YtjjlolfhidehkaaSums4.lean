/-
  SizeSums answers true, whatever it is given.
-/
import Derived.Test.YtjjlolfhidehkaaAwake4
import Derived.Test.YtjjlolfhidehkaaLists
import Derived.Test.YtjjlolfhidehkaaOwn
namespace Go.Proofs.Ytjjlolfhidehkaa
open Go.RowKit

theorem Try.infoInt : (Try.prog.info? 3).map (fun i => (i.zero, i.size, i.bytes)) = some (some (.int .i64 0), 1, 8) := by kernel_rfl

theorem Row.sizes {w : World} {t : TypeId} {g : Nat} (h : Row w t g sizesL) : IntsAt w (some ⟨g, 0, .none⟩) sizesL :=
  ⟨fun _ => ⟨g, 0, rfl, h.lt, fun i hi => by rw [Nat.zero_add]; exact h.cell hi⟩, fun i => by have := sizes_le i; omega, fun i => by have := sizes_le i; omega⟩
theorem odd_ints {w : World} {t : TypeId} {g : Nat} (h : Row w t g [-5, 0, 2000]) : IntsAt w (some ⟨g, 0, .none⟩) [-5, 0, 2000] := by
  refine ⟨fun _ => ⟨g, 0, rfl, h.lt, fun i hi => by rw [Nat.zero_add]; exact h.cell hi⟩, fun i => ?_, fun i => ?_⟩
  all_goals
    rcases (show i = 0 ∨ i = 1 ∨ i = 2 ∨ 3 ≤ i by omega) with rfl | rfl | rfl | h
    all_goals first | (simp; done) | (rw [List.getElem?_eq_none (by simpa using h)]; simp)
theorem odd_sum : sumB [-5, 0, 2000] = 0 := by decide
theorem ListAt.bd {w : World} {ao : Option Addr} {n : Nat} {L : List Int} (h : ListAt w ao .i16 n L) (j : Nat) : ∀ i : Nat, -9223372036854775808 ≤ (L.take j)[i]?.getD 0 ∧ (L.take j)[i]?.getD 0 ≤ 9223372036854775807 := by
  intro i
  rw [List.getElem?_take]
  split
  · by_cases hi : i < n
    · have := bounds_i16 (h.wf i hi); omega
    · rw [List.getElem?_eq_none (by rw [h.len]; omega)]; simp
  · simp
theorem own_form {w : World} {base : Nat} {e : TypeId} {v : Value} {n : Nat} {L : List Int} (hown : w.ownsRow base e 1 v n (ints L)) (hbd : ∀ i : Nat, -9223372036854775808 ≤ L[i]?.getD 0 ∧ L[i]?.getD 0 ≤ 9223372036854775807) :
    ∃ la lc, v = .slice la L.length lc ∧ n = L.length ∧ IntsAt w la L ∧ (∀ a, la = some a → base ≤ a.block) ∧ (la = none → lc = 0) := by
  rcases own_ints hown hbd with ⟨rfl, rfl, rfl⟩ | ⟨gl, cap, rfl, h, hgl, _, hIL⟩
  · exact ⟨none, 0, rfl, rfl, IntsAt.nil _ _, fun a h => (by cases h), fun _ => rfl⟩
  · exact ⟨some ⟨gl, 0, none⟩, cap, rfl, h, hIL, fun a h => (by cases h; exact hgl), fun h => (by cases h)⟩

theorem two_bd {L M : List Int} (hL : ∀ i : Nat, -9223372036854775808 ≤ L[i]?.getD 0 ∧ L[i]?.getD 0 ≤ 9223372036854775807) (hM : ∀ i : Nat, -9223372036854775808 ≤ M[i]?.getD 0 ∧ M[i]?.getD 0 ≤ 9223372036854775807) :
    ∀ i : Nat, -9223372036854775808 ≤ (L ++ M)[i]?.getD 0 ∧ (L ++ M)[i]?.getD 0 ≤ 9223372036854775807 := by
  intro i
  by_cases h : i < L.length
  · rw [List.getElem?_append_left h]; exact hL i
  · rw [List.getElem?_append_right (by omega)]; exact hM _

set_option maxRecDepth 100000 in
set_option maxHeartbeats 8000000 in
theorem sums_any (ao bo : Option Addr) (n m c d : Nat) (A B : List Int) (w : World) (hn : n ≤ 9223372036854775807) (hm : m ≤ 9223372036854775807) (hA : ListAt w ao .i16 n A) (hB : ListAt w bo .i16 m B) :
    Calls Try.prog 5 #[.slice ao n c, .slice bo m d] w fun e w' => e = .returned (.bool true) ∧ Keep [] w w' := by
  by_cases h60 : 60 < n
  · have hd : decide (60 < (n : Int)) = true := by rw [decide_eq_true_iff]; omega
    go_enter Try.func5, Try.ntmps5
    go_wp2_with (go_at_call 7; refine (awake4_any _).mono ?_; rintro e w8 ⟨rfl, hK8⟩)
    go_ret
    exact ⟨rfl, hK8⟩
  · by_cases h61 : 60 < m
    · have hd : decide (60 < (n : Int)) = false := by rw [decide_eq_false_iff_not]; omega
      have hd2 : decide (60 < (m : Int)) = true := by rw [decide_eq_true_iff]; omega
      go_enter Try.func5, Try.ntmps5
      go_wp2_with (go_at_call 7; refine (awake4_any _).mono ?_; rintro e w8 ⟨rfl, hK8⟩)
      go_ret
      exact ⟨rfl, hK8⟩
    · have hd : decide (60 < (n : Int)) = false := by rw [decide_eq_false_iff_not]; omega
      have hd2 : decide (60 < (m : Int)) = false := by rw [decide_eq_false_iff_not]; omega
      obtain ⟨i0, hi, hz0, hz1, hz2⟩ := info_parts Try.infoInt
      have hI : Hid (Try.prog.info? 3 = some i0 ∧ i0.zero = some (.int .i64 0) ∧ i0.size = 1 ∧ i0.bytes = 8) := ⟨hi, hz0, hz1, hz2⟩
      clear hi hz0 hz1 hz2
      have HA := (show Hid (ListAt w ao .i16 n A) from hA)
      have HB := (show Hid (ListAt w bo .i16 m B) from hB)
      clear hA hB hn hm
      go_enter Try.func5, Try.ntmps5
      go_wp2_with fail
      go_loopw [5, 7] (fun v i wr => ∃ (j : Nat) (vv : Value), vv = v ∧ j ≤ n ∧ i = .int .i64 j ∧ Hid (wr.ownsRow w.heap.size 3 1 v j (ints (A.take j))) ∧ Keep [] w wr) (fun _ i _ => n - (intOf i).toNat)
      case atStart => exact ⟨0, _, rfl, by omega, rfl, World.ownsRow_nil _ _ _ _, Keep.refl _ _⟩
      case round =>
        obtain ⟨j, v, hvv, hj, rfl, HO, hK⟩ := hrel
        obtain ⟨w1, rfl⟩ : ∃ w1, w1 = wr := ⟨_, rfl⟩
        subst hvv
        by_cases hlt : j < n
        · obtain ⟨ab, off, rfl, hab, hcs⟩ := HA.out.cells (by omega)
          have hc := (hK.cell hab (by simp) (off + j)).trans (hcs j hlt)
          have hbd := bounds_i16 (HA.out.wf j hlt)
          have HT := (show Hid (A.take (j + 1) = A.take j ++ [A[j]?.getD 0]) from take_snoc A j (by rw [HA.out.len]; exact hlt))
          clear hcs
          generalize A[j]?.getD 0 = x at *
          go_wp2_with (at_builtin; refine append_ints rfl (.tmp 27) (.tmp 33) 22 rfl w.heap.size 3 i0 Try.underlying22 hI.out _ j (A.take j) [x] rfl (HO.out.alloc _) (some ⟨w1.heap.size, 0, none⟩) 1 1 rfl rfl (IntsAt.single w1 3 x (by omega) (by omega)) (fun e => by cases e) (by omega) (by have := hK.size; simp; omega) ?_; intro v' w5 hown5 hgrow)
          have HO5 := (show Hid (w5.ownsRow w.heap.size 3 1 v' (j + 1) (ints (A.take (j + 1)))) from by
            show World.ownsRow _ _ _ _ _ _ _
            rw [HT.out]; exact hown5)
          have hK5 : Keep [] w w5 := (hK.trans (Keep.alloc [] _ _)).grown hgrow (own_block HO.out)
          clear hown5 hgrow hK HT
          go_wp2_with fail
          go_roundw
          case rel => exact ⟨j + 1, _, rfl, by omega, by go_num, HO5, hK5⟩
          case measure => simp [intOf]; omega
        · obtain rfl : j = n := by omega
          have e1 : A.take j = A := List.take_of_length_le (by rw [HA.out.len]; omega)
          have hbA := HA.out.bd j
          rw [e1] at hbA
          have hown := HO.out
          rw [e1] at hown
          obtain ⟨la, lc, rfl, hLA, hIA, hoffA, hlc⟩ := own_form hown hbA
          have HIA := (show Hid (IntsAt w1 la A) from hIA)
          have HLC := (show Hid (la = none → lc = 0) from hlc)
          have HBA := (show Hid (∀ i : Nat, -9223372036854775808 ≤ A[i]?.getD 0 ∧ A[i]?.getD 0 ≤ 9223372036854775807) from hbA)
          rw [← hLA]
          have HLA := (show Hid (j = A.length) from hLA)
          clear hown hIA hoffA hlc HO e1 hbA hLA
          go_wp2_with fail
          go_loopw [6, 8] (fun v i wq => ∃ (q : Nat) (vv : Value), vv = v ∧ q ≤ m ∧ i = .int .i64 q ∧ Hid (wq.ownsRow w1.heap.size 3 1 v q (ints (B.take q))) ∧ Keep [] w1 wq) (fun _ i _ => m - (intOf i).toNat)
          case atStart => exact ⟨0, _, rfl, by omega, rfl, World.ownsRow_nil _ _ _ _, Keep.refl _ _⟩
          case round =>
            obtain ⟨q, v, hvv, hq, rfl, HO, hK2⟩ := hrel
            obtain ⟨w2, rfl⟩ : ∃ w2, w2 = wr := ⟨_, rfl⟩
            subst hvv
            by_cases hlt2 : q < m
            · obtain ⟨ab, off, rfl, hab, hcs⟩ := HB.out.cells (by omega)
              have hK12 := hK.trans hK2
              have hc := (hK12.cell hab (by simp) (off + q)).trans (hcs q hlt2)
              have hbd := bounds_i16 (HB.out.wf q hlt2)
              have HT := (show Hid (B.take (q + 1) = B.take q ++ [B[q]?.getD 0]) from take_snoc B q (by rw [HB.out.len]; exact hlt2))
              clear hcs hK12
              generalize B[q]?.getD 0 = x at *
              go_wp2_with (at_builtin; refine append_ints rfl (.tmp 41) (.tmp 47) 22 rfl w1.heap.size 3 i0 Try.underlying22 hI.out _ q (B.take q) [x] rfl (HO.out.alloc _) (some ⟨w2.heap.size, 0, none⟩) 1 1 rfl rfl (IntsAt.single w2 3 x (by omega) (by omega)) (fun e => by cases e) (by omega) (by have := hK2.size; simp; omega) ?_; intro v' w5 hown5 hgrow)
              have HO5 := (show Hid (w5.ownsRow w1.heap.size 3 1 v' (q + 1) (ints (B.take (q + 1)))) from by
                show World.ownsRow _ _ _ _ _ _ _
                rw [HT.out]; exact hown5)
              have hK5 : Keep [] w1 w5 := (hK2.trans (Keep.alloc [] _ _)).grown hgrow (own_block HO.out)
              clear hown5 hgrow hK2 HT
              go_wp2_with fail
              go_roundw
              case rel => exact ⟨q + 1, _, rfl, by omega, by go_num, HO5, hK5⟩
              case measure => simp [intOf]; omega
            · obtain rfl : q = m := by omega
              have e1 : B.take q = B := List.take_of_length_le (by rw [HB.out.len]; omega)
              have hbB := HB.out.bd q
              rw [e1] at hbB
              have hown := HO.out
              rw [e1] at hown
              obtain ⟨lb, ld, rfl, hLB, hIB, _, hld⟩ := own_form hown hbB
              have HIB := (show Hid (IntsAt w2 lb B) from hIB)
              have HIA2 := (show Hid (IntsAt w2 la A) from HIA.out.keep hK2 (fun _ => by intro a _; simp))
              have HLD := (show Hid (lb = none → ld = 0) from hld)
              have HBB := (show Hid (∀ i : Nat, -9223372036854775808 ≤ B[i]?.getD 0 ∧ B[i]?.getD 0 ≤ 9223372036854775807) from hbB)
              rw [← hLB]
              have HLB := (show Hid (q = B.length) from hLB)
              have hKw := hK.trans hK2
              clear hown hIB hld HO e1 hbB hLB HIA hK hK2
              go_wp2_with (first | (at_builtin; refine append_ints rfl (.tmp 49) (.tmp 50) 22 rfl w2.heap.size 3 i0 Try.underlying22 hI.out _ 0 [] A rfl (own_empty w2 3) la j lc HLA.out.symm rfl (HIA2.out.keep (Keep.alloc [] _ _) (fun _ _ _ => by simp)) HLC.out (by omega) (by simp) ?_; intro v5 w5 hown5 hgrow5; rw [List.nil_append] at hown5; have hK5 := (Keep.alloc [] w2 (.cells #[] 3)).grown hgrow5 (fun k e => by cases e; exact Nat.le_refl _)) | (at_builtin; refine append_ints rfl (.tmp 51) (.tmp 52) 22 rfl w2.heap.size 3 i0 Try.underlying22 hI.out _ (0 + j) A B rfl hown5 lb q ld HLB.out.symm rfl (HIB.out.keep hK5 (fun _ _ _ => by simp)) HLD.out (by omega) hK5.size ?_; intro v6 w6 hown6 hgrow6; have hK6 := hK5.grown hgrow6 (own_block hown5); clear hown5 hgrow6))
              obtain ⟨lx, lz, rfl, hLX, hIX, _, _⟩ := own_form hown6 (two_bd HBA.out HBB.out)
              have hl60 : (A ++ B).length ≤ 120 := by rw [← hLX]; omega
              refine (sum_any lx _ lz (A ++ B) _ hIX rfl (by omega)).mono ?_
              rw [sumB_app]
              have sA := sumB_le A
              have sB := sumB_le B
              rw [← HLA.out] at sA
              rw [← HLB.out] at sB
              have HIA6 := (show Hid (IntsAt w6 la A) from HIA2.out.keep hK6 (fun _ _ _ => by simp))
              have HIB6 := (show Hid (IntsAt w6 lb B) from HIB.out.keep hK6 (fun _ _ _ => by simp))
              have hKw6 := hKw.trans hK6
              clear hIX hl60 hLX hown6 hK6 hK5 hgrow5 HIA2 HIB hKw
              generalize hsa : sumB A = za at *
              generalize hsb : sumB B = zb at *
              have HSA := (show Hid (sumB A = za) from hsa)
              have HSB := (show Hid (sumB B = zb) from hsb)
              clear hsa hsb
              obtain ⟨zs, hzs⟩ : ∃ zs, za + zb = zs := ⟨_, rfl⟩
              rw [hzs]
              rintro e w7 ⟨rfl, hK7⟩
              go_wp2_with fail
              refine (sizes_any _).mono ?_
              rintro e w8 ⟨g, rfl, hr, hK8, hg⟩
              have hc0 := hr.cell (i := 0) (by rw [sizesL_length]; omega)
              have hfr := hr.free 0
              have hKc := Keep.setCell (S := [g]) w8 (a := ⟨g, 0, none⟩) (.int .i64 99) (by simp)
              go_wp2_with fail
              have hKd : Keep [] w7 (w8.setCell ⟨g, 0, none⟩ (.int .i64 99)) := ((hK8.mono (T := [g]) (by simp)).trans hKc).drop (by simp; omega)
              generalize w8.setCell ⟨g, 0, none⟩ (.int .i64 99) = w9 at *
              have hK9 := hK7.trans hKd
              have hKw9 := hKw6.trans hK9
              have hIA9 := HIA6.out.keep hK9 (fun _ _ _ => by simp)
              have hIB9 := HIB6.out.keep hK9 (fun _ _ _ => by simp)
              clear hK7 hKd hK8 hKc hc0 hfr hr hg hK9 HIA6 HIB6 hKw6
              refine (sum_any la _ lc A _ hIA9 HLA.out.symm (by omega)).mono ?_
              rw [HSA.out]
              rintro e w10 ⟨rfl, hK10⟩
              have hIB10 := hIB9.keep hK10 (fun _ _ _ => by simp)
              go_wp2_with fail
              refine (sum_any lb _ ld B _ hIB10 HLB.out.symm (by omega)).mono ?_
              rw [HSB.out]
              rintro e w11 ⟨rfl, hK11⟩
              go_wp2_with fail
              have hr1 : Row (w11.alloc (.cells #[.int .i64 (-5), .int .i64 0, .int .i64 2000] 3)) 3 w11.heap.size [-5, 0, 2000] := heap_alloc_new _ _
              have hK12 := Keep.alloc [] w11 (.cells #[.int .i64 (-5), .int .i64 0, .int .i64 2000] 3)
              generalize w11.alloc (.cells #[.int .i64 (-5), .int .i64 0, .int .i64 2000] 3) = w12 at *
              refine (sum_any (some ⟨w11.heap.size, 0, none⟩) 3 3 [-5, 0, 2000] _ (odd_ints hr1) rfl (by omega)).mono ?_
              rw [odd_sum]
              rintro e w13 ⟨rfl, hK13⟩
              go_wp2_with fail
              refine (sizes_any _).mono ?_
              rintro e w14 ⟨g2, rfl, hr2, hK14, hg2⟩
              go_wp2_with fail
              have hr3 : Row (w14.alloc (.cells #[.int .i64 2, .int .i64 4, .int .i64 8, .int .i64 16, .int .i64 32] 3)) 3 w14.heap.size sizesL := heap_alloc_new _ _
              have hK15 := Keep.alloc [] w14 (.cells #[.int .i64 2, .int .i64 4, .int .i64 8, .int .i64 16, .int .i64 32] 3)
              generalize w14.alloc (.cells #[.int .i64 2, .int .i64 4, .int .i64 8, .int .i64 16, .int .i64 32] 3) = w15 at *
              have hr4 := hr2.keep hK15 (by simp)
              refine (same_yes _ _ 5 5 5 _ _ hr4.sizes hr3.sizes rfl (by omega)).mono ?_
              rintro e w16 ⟨rfl, hK16⟩
              go_wp2_with fail
              refine (awake4_any _).mono ?_
              rintro e w17 ⟨rfl, hK17⟩
              go_wp2_with fail
              go_ret
              exact ⟨rfl, ((((((((hKw9.trans hK10).trans hK11).trans hK12).trans hK13).trans hK14).trans hK15).trans hK16).trans hK17)⟩

end Go.Proofs.Ytjjlolfhidehkaa

namespace Go.Proofs.Ytjjlolfhidehkaa.sizeSums
theorem walk (o0 : Option Addr) (len0 cap0 : Nat) (A0 : List Int) (o1 : Option Addr) (len1 cap1 : Nat) (A1 : List Int) (w0 : len0 ≤ 9223372036854775807) (w1 : len1 ≤ 9223372036854775807) (w : World) (u0 : ListAt w o0 .i16 len0 A0) (u1 : ListAt w o1 .i16 len1 A1) :
    Calls Try.prog 5 #[.slice o0 len0 cap0, .slice o1 len1 cap1] w fun e w' => e = .returned (.bool true) ∧ Keep [] w w' :=
  sums_any o0 o1 len0 len1 cap0 cap1 A0 A1 w w0 w1 u0 u1
end Go.Proofs.Ytjjlolfhidehkaa.sizeSums
