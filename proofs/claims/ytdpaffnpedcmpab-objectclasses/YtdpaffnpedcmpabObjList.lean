/-
  Package object: what upTo, words and Refs answer.
-/
import Derived.Test.YtdpaffnpedcmpabObjNew
namespace Go.Proofs.Ytdpaffnpedcmpab
open Go.RowKit

theorem Row.ints {w : World} {t : TypeId} {g : Nat} {L : List Int} (h : Row w t g L) (hb : ∀ i : Nat, inI (L[i]?.getD 0)) : IntsAt w (some ⟨g, 0, none⟩) L :=
  ⟨fun _ => ⟨g, 0, rfl, h.lt, fun i hi => by rw [Nat.zero_add]; exact h.cell hi⟩, fun i => (hb i).1, fun i => (hb i).2⟩
theorem upL_bd (l : Int) (hl : l ≤ 1023) : ∀ i : Nat, inI ((upL l)[i]?.getD 0) := by
  intro i
  by_cases hi : i < l.toNat
  · rw [upL_get l i hi]; unfold inI; omega
  · rw [List.getElem?_eq_none (by rw [upL_length]; omega)]; exact inI_0
/-- The fields of an object of l fields at b. -/
def wordsL (ws : List Int) (b : Nat) (l : Int) : List Int := (List.range l.toNat).map (fun i => ws[b + 1 + i]?.getD 0)
theorem wordsL_length (ws : List Int) (b : Nat) (l : Int) : (wordsL ws b l).length = l.toNat := by simp [wordsL]
theorem wordsL_get (ws : List Int) (b : Nat) (l : Int) (i : Nat) (h : i < l.toNat) : (wordsL ws b l)[i]?.getD 0 = ws[b + 1 + i]?.getD 0 := by simp [wordsL, h]
theorem wordsL_bd {ws : List Int} (h : ∀ i : Nat, inI (ws[i]?.getD 0)) (b : Nat) (l : Int) : ∀ i : Nat, inI ((wordsL ws b l)[i]?.getD 0) := by
  intro i
  by_cases hi : i < l.toNat
  · rw [wordsL_get ws b l i hi]; exact h _
  · rw [List.getElem?_eq_none (by rw [wordsL_length]; omega)]; exact inI_0

set_option maxHeartbeats 1600000 in
theorem oupto (l : Int) (k : Nat) (w : World) (hk : l = k) (hl : l ≤ 1023) :
    Calls Try.prog 38 #[.int .i64 l] w fun e w' => ∃ z, e = .returned (.slice (some ⟨z, 0, none⟩) k k) ∧ Row w' 3 z (upL l) ∧ Keep [] w w' ∧ w.heap.size ≤ z := by
  subst hk
  have hmk : ∀ w, (Instr.makeSlice 46 (.int .i64 (k : Int)) (.int .i64 (k : Int))).run Try.prog w = .ok (.slice (some ⟨w.heap.size, 0, none⟩) k k) (w.alloc (.cells (madeCells #[.int .i64 0] k) 3)) :=
    fun w => run_make_row' (P := Try.prog) 46 3 (.int .i64 0) 8 Try.underlying46 Try.infoIntC rfl .i64 .i64 k (by omega) (by omega) w
  go_enter Try.func38, Try.ntmps38
  go_wp2
  have hR := Row.made w 3 k
  have hK := Keep.alloc [] w (.cells (madeCells #[.int .i64 0] k) 3)
  have hz : w.heap.size < (w.alloc (.cells (madeCells #[.int .i64 0] k) 3)).heap.size := by simp
  clear hmk
  generalize w.alloc (.cells (madeCells #[.int .i64 0] k) 3) = w1 at *
  obtain ⟨z, hzz⟩ : ∃ z, w.heap.size = z := ⟨_, rfl⟩
  rw [hzz] at hR hz ⊢
  go_loopw [9] (fun i wr => ∃ (j : Nat) (L : List Int), i = .int .i64 j ∧ j ≤ k ∧ Hid (L.length = k) ∧ Hid (∀ t : Nat, t < j → L[t]?.getD 0 = (t : Int)) ∧ Row wr 3 z L ∧ Keep [z] w wr) (fun i _ => k - (intOf i).toNat)
  case atStart => exact ⟨0, _, rfl, by omega, zeros_length k, fun t h => by omega, hR, hK.mono (by simp)⟩
  case round =>
    obtain ⟨j, L, rfl, hj, HL, HJ, hR2, hK2⟩ := hrel
    clear hR hK
    by_cases hlt : j < k
    · have y1 := hR2.cell (i := j) (by rw [HL.out]; exact hlt)
      have y2 := hR2.free j
      have HR := (show Hid (Row (wr.setCell ⟨z, j, none⟩ (.int .i64 (j : Int))) 3 z (L.set j (j : Int))) from hR2.put j _)
      have hK3 : Keep [z] w (wr.setCell ⟨z, j, none⟩ (.int .i64 (j : Int))) := hK2.trans (Keep.setCell _ _ (by simp))
      clear hR2 hK2
      go_wp2
      go_roundw
      case rel =>
        refine ⟨j + 1, L.set j (j : Int), by go_num, by omega, by show _ = _; rw [List.length_set]; exact HL.out, fun t ht => ?_, HR.out, hK3⟩
        by_cases e : t = j
        · subst e; rw [set_get_same _ _ _ (by rw [HL.out]; exact hlt)]
        · rw [set_get_other _ _ _ _ (fun e' => e e'.symm)]; exact HJ.out t (by omega)
      case measure => simp [intOf]; omega
    · obtain rfl : j = k := by omega
      have hLe : L = upL j := eq_of_getD (by rw [HL.out, upL_length]; omega) (fun t => by
        by_cases ht : t < j
        · rw [HJ.out t ht, upL_get _ t (by omega)]
        · rw [List.getElem?_eq_none (by rw [HL.out]; omega), List.getElem?_eq_none (by rw [upL_length]; omega)])
      rw [hLe] at hR2
      have HR := (show Hid (Row wr 3 z (upL j)) from hR2)
      clear hR2 hLe
      go_wp2
      go_ret
      exact ⟨z, rfl, HR.out, hK2.drop (by simp; omega), by omega⟩

section
variable {w0 : World} {F0 : List Nat} {hb : Nat} {ws : List Int} {kd : List PK} {ds : List (Int × List Int)}
set_option maxHeartbeats 1600000 in
theorem owords {sb tb : Nat} (b k : Nat) (l : Int) (w : World) (h : Has w0 F0 (rawA hb sb tb ws kd ds) w) (hk : l = k) (hl : l ≤ 1023) (hlt : b + k < ws.length) (hb0 : b ≤ 20000) :
    Calls Try.prog 35 #[.pointer (some ⟨hb, 0, none⟩), .int .i64 b, .int .i64 l] w fun e w' => ∃ z, e = .returned (.slice (some ⟨z, 0, none⟩) k k) ∧ Row w' 3 z (wordsL ws b l) ∧ Keep [] w w' ∧ w.heap.size ≤ z := by
  subst hk
  have hmk : ∀ w, (Instr.makeSlice 46 (.int .i64 (k : Int)) (.int .i64 (k : Int))).run Try.prog w = .ok (.slice (some ⟨w.heap.size, 0, none⟩) k k) (w.alloc (.cells (madeCells #[.int .i64 0] k) 3)) :=
    fun w => run_make_row' (P := Try.prog) 46 3 (.int .i64 0) 8 Try.underlying46 Try.infoIntC rfl .i64 .i64 k (by omega) (by omega) w
  have HX := (show Hid (Has w0 F0 (rawA hb sb tb ws kd ds) w) from h)
  clear h
  go_enter Try.func35, Try.ntmps35
  go_wp2
  have hR := Row.made w 3 k
  have hK := Keep.alloc [] w (.cells (madeCells #[.int .i64 0] k) 3)
  have hz : w.heap.size < (w.alloc (.cells (madeCells #[.int .i64 0] k) 3)).heap.size := by simp
  clear hmk
  generalize w.alloc (.cells (madeCells #[.int .i64 0] k) 3) = w1 at *
  obtain ⟨z, hzz⟩ : ∃ z, w.heap.size = z := ⟨_, rfl⟩
  rw [hzz] at hR hz ⊢
  go_loopw [13] (fun i wr => ∃ (j : Nat) (L : List Int), i = .int .i64 j ∧ j ≤ k ∧ Hid (L.length = k) ∧ Hid (∀ t : Nat, t < j → L[t]?.getD 0 = ws[b + 1 + t]?.getD 0) ∧ Row wr 3 z L ∧ Keep [z] w wr) (fun i _ => k - (intOf i).toNat)
  case atStart => exact ⟨0, _, rfl, by omega, zeros_length k, fun t h => by omega, hR, hK.mono (by simp)⟩
  case round =>
    obtain ⟨j, L, rfl, hj, HL, HJ, hR2, hK2⟩ := hrel
    clear hR hK
    have hK0 : Keep [] w wr := hK2.drop (by simp; omega)
    by_cases hlt2 : j < k
    · have y1 := hR2.cell (i := j) (by rw [HL.out]; exact hlt2)
      have y2 := hR2.free j
      obtain ⟨x, hx⟩ : ∃ x, ws[b + 1 + j]?.getD 0 = x := ⟨_, rfl⟩
      have HV := (show Hid (ws[b + 1 + j]?.getD 0 = x) from hx)
      have HR := (show Hid (Row (wr.setCell ⟨z, j, none⟩ (.int .i64 x)) 3 z (L.set j x)) from hR2.put j _)
      have hK3 : Keep [z] w (wr.setCell ⟨z, j, none⟩ (.int .i64 x)) := hK2.trans (Keep.setCell _ _ (by simp))
      obtain ⟨c0, _, ⟨ab, ag, c2, hAr⟩, _, _⟩ := (HX.out.keep0 hK0).cells
      obtain ⟨p, hp⟩ : ∃ p : Nat, b + 1 + j = p := ⟨_, rfl⟩
      have hpi : (b : Int) + 1 + j = p := by omega
      have hpl : p < ws.length := by omega
      rw [hp] at HV
      clear hR2 hK2 hx hp
      go_wp2_with (first | (go_at_call 32; refine (xload _ ab ag p hAr hpl).mono ?_; rw [HV.out]; rintro e w' ⟨rfl, rfl⟩))
      go_roundw
      case rel =>
        refine ⟨j + 1, L.set j x, by go_num, by omega, by show _ = _; rw [List.length_set]; exact HL.out, fun t ht => ?_, HR.out, hK3⟩
        by_cases e : t = j
        · subst e; rw [set_get_same _ _ _ (by rw [HL.out]; exact hlt2), show b + 1 + t = p by omega]; exact HV.out.symm
        · rw [set_get_other _ _ _ _ (fun e' => e e'.symm)]; exact HJ.out t (by omega)
      case measure => simp [intOf]; omega
    · obtain rfl : j = k := by omega
      have hLe : L = wordsL ws b j := eq_of_getD (by rw [HL.out, wordsL_length]; omega) (fun t => by
        by_cases ht : t < j
        · rw [HJ.out t ht, wordsL_get _ _ _ t (by omega)]
        · rw [List.getElem?_eq_none (by rw [HL.out]; omega), List.getElem?_eq_none (by rw [wordsL_length]; omega)])
      rw [hLe] at hR2
      have HR := (show Hid (Row wr 3 z (wordsL ws b j)) from hR2)
      clear hR2 hLe
      go_wp2
      go_ret
      exact ⟨z, rfl, HR.out, hK0, by omega⟩
set_option maxHeartbeats 1600000 in
theorem orefs_other (pv : Option Addr) (a k c l E : Int) (f : Bool) (w : World) (hk : k ≠ 1 ∧ k ≠ 2 ∧ k ≠ 4) (hc : Calls Try.prog 11 #[.pointer pv, .int .i64 a] w fun e w' => e = .returned (.tuple #[.agg #[.int .i64 k, .int .i64 c, .int .i64 l, .bool f], .int .i64 E]) ∧ Keep [] w w') :
    Calls Try.prog 18 #[.pointer pv, .int .i64 a] w fun e w' => e = .returned (.slice none 0 0) ∧ Keep [] w w' := by
  have HC := (show Hid (Calls Try.prog 11 #[.pointer pv, .int .i64 a] w fun e w' => e = .returned (.tuple #[.agg #[.int .i64 k, .int .i64 c, .int .i64 l, .bool f], .int .i64 E]) ∧ Keep [] w w') from hc)
  have hd1 : (k == 1) = false := by simpa using hk.1
  have hd2 : (k == 2) = false := by simpa using hk.2.1
  have hd4 : (k == 4) = false := by simpa using hk.2.2
  clear hc
  go_enter Try.func18, Try.ntmps18
  go_wp2_with (first | (go_at_call 11; refine HC.out.mono ?_; rintro e w1 ⟨rfl, hK1⟩; obtain ⟨g0, g1, g2, g3⟩ := four_cells (heap_alloc_new w1 (.cells #[.int .i64 k, .int .i64 c, .int .i64 l, .bool f] 31))))
  go_ret
  exact ⟨rfl, hK1.trans (Keep.alloc [] _ _)⟩
set_option maxHeartbeats 1600000 in
theorem orefs_ref (pv : Option Addr) (a c l E : Int) (f : Bool) (w : World) (hc : Calls Try.prog 11 #[.pointer pv, .int .i64 a] w fun e w' => e = .returned (.tuple #[.agg #[.int .i64 4, .int .i64 c, .int .i64 l, .bool f], .int .i64 E]) ∧ Keep [] w w') :
    Calls Try.prog 18 #[.pointer pv, .int .i64 a] w fun e w' => ∃ z, e = .returned (.slice (some ⟨z, 0, none⟩) 1 1) ∧ Row w' 3 z [2] ∧ w.heap.size ≤ z ∧ Keep [] w w' := by
  have HC := (show Hid (Calls Try.prog 11 #[.pointer pv, .int .i64 a] w fun e w' => e = .returned (.tuple #[.agg #[.int .i64 4, .int .i64 c, .int .i64 l, .bool f], .int .i64 E]) ∧ Keep [] w w') from hc)
  clear hc
  go_enter Try.func18, Try.ntmps18
  go_wp2_with (first | (go_at_call 11; refine HC.out.mono ?_; rintro e w1 ⟨rfl, hK1⟩; obtain ⟨g0, g1, g2, g3⟩ := four_cells (heap_alloc_new w1 (.cells #[.int .i64 4, .int .i64 c, .int .i64 l, .bool f] 31))))
  go_ret
  have hs := hK1.size
  exact ⟨_, rfl, second_block w1 _ _ _, by omega, (hK1.trans (Keep.alloc [] _ _)).trans (Keep.alloc [] _ _)⟩
set_option maxHeartbeats 1600000 in
theorem orefs_all (pv : Option Addr) (a c l E : Int) (q : Nat) (f : Bool) (w : World) (hq : l = q) (hl : l ≤ 1023) (hc : Calls Try.prog 11 #[.pointer pv, .int .i64 a] w fun e w' => e = .returned (.tuple #[.agg #[.int .i64 2, .int .i64 c, .int .i64 l, .bool f], .int .i64 E]) ∧ Keep [] w w') :
    Calls Try.prog 18 #[.pointer pv, .int .i64 a] w fun e w' => ∃ z, e = .returned (.slice (some ⟨z, 0, none⟩) q q) ∧ Row w' 3 z (upL l) ∧ w.heap.size ≤ z ∧ Keep [] w w' := by
  have HC := (show Hid (Calls Try.prog 11 #[.pointer pv, .int .i64 a] w fun e w' => e = .returned (.tuple #[.agg #[.int .i64 2, .int .i64 c, .int .i64 l, .bool f], .int .i64 E]) ∧ Keep [] w w') from hc)
  have HQ := (show Hid (l = q) from hq)
  clear hc hq
  go_enter Try.func18, Try.ntmps18
  go_wp2_with (first | (go_at_call 11; refine HC.out.mono ?_; rintro e w1 ⟨rfl, hK1⟩; obtain ⟨g0, g1, g2, g3⟩ := four_cells (heap_alloc_new w1 (.cells #[.int .i64 2, .int .i64 c, .int .i64 l, .bool f] 31))) | (go_at_call 38; refine (oupto l q _ HQ.out hl).mono ?_; rintro e w2 ⟨z, rfl, hR, hK2, hz⟩))
  go_ret
  have hs := hK1.size
  simp at hz
  exact ⟨z, rfl, hR, by omega, (hK1.trans (Keep.alloc [] _ _)).trans hK2⟩
set_option maxRecDepth 100000 in
set_option maxHeartbeats 3200000 in
theorem orefs_plain {sb tb : Nat} (i : Nat) (a c l n : Int) (f : Bool) (L : List Int) (w : World) (h : Has w0 F0 (rawA hb sb tb ws kd ds) w) (hci : c = (i : Int) + 1) (hi : ds[i]? = some (n, L)) (hl : ds.length ≤ 256) (hc : Calls Try.prog 11 #[.pointer (some ⟨hb, 0, none⟩), .int .i64 a] w fun e w' => e = .returned (.tuple #[.agg #[.int .i64 1, .int .i64 c, .int .i64 l, .bool f], .int .i64 0]) ∧ Keep [] w w') :
    Calls Try.prog 18 #[.pointer (some ⟨hb, 0, none⟩), .int .i64 a] w fun e w' => ∃ la lc, e = .returned (.slice la L.length lc) ∧ IntsAt w' la L ∧ (∀ x, la = some x → w.heap.size ≤ x.block) ∧ Keep [] w w' := by
  have HC := (show Hid (Calls Try.prog 11 #[.pointer (some ⟨hb, 0, none⟩), .int .i64 a] w fun e w' => e = .returned (.tuple #[.agg #[.int .i64 1, .int .i64 c, .int .i64 l, .bool f], .int .i64 0]) ∧ Keep [] w w') from hc)
  have HCI := (show Hid (c = (i : Int) + 1) from hci)
  have HX := (show Hid (Has w0 F0 (rawA hb sb tb ws kd ds) w) from h)
  clear hc hci h
  go_enter Try.func18, Try.ntmps18
  go_upto_region 4 with (first | (go_at_call 11; refine HC.out.mono ?_; rintro e w9 ⟨rfl, hK9⟩; have hx := heap_alloc_new w9 (.cells #[.int .i64 1, .int .i64 c, .int .i64 l, .bool f] 31); obtain ⟨g0, g1, g2, g3⟩ := four_cells hx))
  have hK := hK9.trans (Keep.alloc [] w9 (.cells #[.int .i64 1, .int .i64 c, .int .i64 l, .bool f] 31))
  have h1 := HX.out.keep0 hK
  generalize w9.alloc (.cells #[.int .i64 1, .int .i64 c, .int .i64 l, .bool f] 31) = w1 at *
  have hlx := lt_of_block hx
  have hs9 := hK9.size
  obtain ⟨bx, hbx⟩ : ∃ bx, w9.heap.size = bx := ⟨_, rfl⟩
  rw [hbx] at hx hlx hs9 ⊢
  clear g0 g1 g2 g3 hK9 hbx
  obtain ⟨g0, g1, g2, g3⟩ := four_cells hx
  obtain ⟨c0, c1, _⟩ := h1.cells
  obtain ⟨F, hT⟩ := h1.tab
  have HT := (show Hid (∀ w', Keep [] w1 w' → IsTab w' tb F ds) from fun w' K => hT.keep K (by simp))
  have hKz := (Keep.alloc [] w1 (.cells #[.int .i64 0, .slice none 0 0] 49)).trans (Keep.drew [] _)
  obtain ⟨b0, b1, _⟩ := (h1.keep0 hKz).cells
  obtain ⟨d0, d1, d2, d3⟩ := four_cells (hKz.blk hx (by simp))
  have hn1 := World.new_ne _ _ c1
  have hn2 := World.new_ne _ _ g1
  clear h1 hT
  go_region_law (first | (go_simp; refine (tclass_at tb i F ds n c L _ (HT.out _ (by first | exact Keep.drew [] _ | exact (Keep.alloc [] _ _).trans (Keep.drew [] _))) hi (by omega) HCI.out).mono ?_; rintro e w2 ⟨la, lc, rfl, HG, hK2⟩; have hKe : Keep [] w1 w2 := (by first | exact (Keep.drew [] _).trans hK2 | exact ((Keep.alloc [] _ _).trans (Keep.drew [] _)).trans hK2); obtain ⟨q0, q1, q2, q3⟩ := four_cells (hKe.blk hx (by simp)); have hn3 : w2.heap.size ≠ bx := World.new_ne _ _ q1; have hn4 := hn3.symm; try (have hz := hK2.blk (heap_alloc_new w1 (.cells #[.int .i64 0, .slice none 0 0] 49)) (by simp); obtain ⟨u0, u1⟩ := two_cells hz; obtain ⟨v0, v1⟩ := two_free hz)))
  all_goals first
    | (obtain ⟨hz1, hk4⟩ := two_put hz (.int .i64 n) (.slice la L.length lc)
       have hKf := hK.trans (((hKe.mono (T := [w1.heap.size]) (by simp)).trans hk4).drop (by simp))
       have HI := (show Hid (IntsAt ((w2.setCell ⟨w1.heap.size, 0, none⟩ (.int .i64 n)).setCell ⟨w1.heap.size, 1, none⟩ (.slice la L.length lc)) la L ∧ ∀ x, la = some x → w.heap.size ≤ x.block) from by
         obtain ⟨_, _, e, h1, h2, h3⟩ := HG
         cases e
         have := hK.size
         refine ⟨h1.keep hk4 (fun _ x e => ?_), fun x e => ?_⟩
         · have := (h3 x e).1; simp at this ⊢; omega
         · have := (h3 x e).1; simp at this; omega)
       clear hk4 hz u0 u1 v0 v1 HG
       generalize (w2.setCell ⟨w1.heap.size, 0, none⟩ (.int .i64 n)).setCell ⟨w1.heap.size, 1, none⟩ (.slice la L.length lc) = wz at *)
    | (have hz1 := heap_alloc_new w2 (.cells #[.int .i64 n, .slice la L.length lc] 49)
       have hKf := (hK.trans hKe).trans (Keep.alloc [] w2 (.cells #[.int .i64 n, .slice la L.length lc] 49))
       have HI := (show Hid (IntsAt (w2.alloc (.cells #[.int .i64 n, .slice la L.length lc] 49)) la L ∧ ∀ x, la = some x → w.heap.size ≤ x.block) from by
         obtain ⟨_, _, e, h1, h2, h3⟩ := HG
         cases e
         have := hK.size
         refine ⟨h1.keep (Keep.alloc [] _ _) (fun _ x e => by simp), fun x e => ?_⟩
         have := (h3 x e).1; simp at this; omega)
       clear HG
       generalize w2.alloc (.cells #[.int .i64 n, .slice la L.length lc] 49) = wz at *)
  all_goals (obtain ⟨t0, t1⟩ := two_cells hz1; clear hz1 q0 q1 q2 q3 hKe hK2)
  all_goals (go_wp2_with fail)
  all_goals go_ret
  all_goals exact ⟨la, ⟨lc, rfl⟩, HI.out.1, HI.out.2, hKf⟩
theorem two_bd : ∀ i : Nat, inI (([2] : List Int)[i]?.getD 0) := by
  intro i
  rcases i with _ | i <;> simp [inI]
theorem orefs (a : Int) (L : List Int) (w : World) (h : Has w0 F0 (heapA hb ws kd ds) w) (hT : RefsT kd ws ds a L) :
    Calls Try.prog 18 #[.pointer (some ⟨hb, 0, none⟩), .int .i64 a] w fun e w' => ∃ la lc, e = .returned (.slice la L.length lc) ∧ IntsAt w' la L ∧ (∀ x, la = some x → w.heap.size ≤ x.block) ∧ Keep [] w w' := by
  have hf := h.fine
  obtain ⟨sb, tb, hr⟩ := h.raw
  cases hT with
  | none hn =>
    refine (orefs_other _ a _ _ _ _ _ w (by omega) (ohead a _ _ _ _ _ w h (.no hn))).mono ?_
    rintro e w' ⟨rfl, hK⟩
    exact ⟨none, 0, rfl, IntsAt.nil _ _, by simp, hK⟩
  | data b m c l f hA =>
    refine (orefs_other _ a _ _ _ _ _ w (by omega) (ohead a _ _ _ _ _ w h (.yes b m 3 c l f hA))).mono ?_
    rintro e w' ⟨rfl, hK⟩
    exact ⟨none, 0, rfl, IntsAt.nil _ _, by simp, hK⟩
  | ref b m c l f hA =>
    refine (orefs_ref _ a _ _ _ _ w (ohead a _ _ _ _ _ w h (.yes b m 4 c l f hA))).mono ?_
    rintro e w' ⟨z, rfl, hR, hz, hK⟩
    exact ⟨_, 1, rfl, hR.ints two_bd, fun x e => by cases e; exact hz, hK⟩
  | refs b m c l f hA =>
    have hbd := hA.2.2.bd
    obtain ⟨q, hq⟩ := Int.eq_ofNat_of_zero_le hbd.2.2.2.2.1
    refine (orefs_all _ a _ l _ q _ w hq (by omega) (ohead a _ _ _ _ _ w h (.yes b m 2 c l f hA))).mono ?_
    rintro e w' ⟨z, rfl, hR, hz, hK⟩
    exact ⟨_, q, by rw [upL_length, hq]; rfl, hR.ints (upL_bd l (by omega)), fun x e => by cases e; exact hz, hK⟩
  | plain b m i c l f L hA hci hi => exact orefs_plain i a c l l f L w hr hci hi hf.few (ohead a _ _ _ _ _ w h (.yes b m 1 c l f hA))
theorem orefs_nil (a : Int) (w : World) :
    Calls Try.prog 18 #[.pointer none, .int .i64 a] w fun e w' => e = .returned (.slice none 0 0) ∧ Keep [] w w' :=
  orefs_other none a _ _ _ _ _ w (by omega) (ohead_nil a w)
end

end Go.Proofs.Ytdpaffnpedcmpab
