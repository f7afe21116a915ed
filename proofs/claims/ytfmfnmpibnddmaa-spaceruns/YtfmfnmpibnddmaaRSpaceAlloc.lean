/-
  Alloc of the document's own space: no words, and more than a class has.
-/
import Derived.Test.YtfmfnmpibnddmaaRSpaceFind
import Derived.Test.YtfmfnmpibnddmaaRefPages
import Derived.Test.YtfmfnmpibnddmaaSpaceAlloc
namespace Go.Proofs.Ytfmfnmpibnddmaa
open Go.RowKit

theorem two_set {w : World} {bx : Nat} {t : TypeId} {v0 v1 a b : Value} (h : w.heap[bx]? = some (.cells #[v0, v1] t (0, 0))) : ((w.setCell ⟨bx, 0, none⟩ a).setCell ⟨bx, 1, none⟩ b).heap[bx]? = some (.cells #[a, b] t (0, 0)) := by
  have z1 := heap_setCell_same w bx 0 _ _ a h
  have z2 := heap_setCell_same _ bx 1 _ _ b z1
  simpa using z2
theorem Keep.two {S : List Nat} {w w2 : World} {bx : Nat} {a b : Value} (h : Keep S w w2) (hb : w.heap.size ≤ bx) : Keep S w ((w2.setCell ⟨bx, 0, none⟩ a).setCell ⟨bx, 1, none⟩ b) :=
  (((h.mono (T := bx :: S) (fun _ e => List.mem_cons_of_mem _ e)).trans (Keep.setCell _ _ (by simp))).trans (Keep.setCell _ _ (by simp))).drop (fun k e hlt => by
    rcases List.mem_cons.1 e with e | e
    · omega
    · exact e)

set_option maxHeartbeats 2000000 in
theorem ralloc_arg (mb : Nat) (n : Int) (w : World) (h : blockI n = 0) :
    Calls Try.prog 19 #[.pointer (some ⟨mb, 0, none⟩), .int .i64 n] w fun e w' => e = .returned (.agg #[.int .i64 0, .int .i64 1]) ∧ Keep [] w w' := by
  have HB := (show Hid (blockI n = 0) from h)
  have hx := heap_alloc_new w (.cells #[.int .i64 0, .int .i64 0] 46)
  have hK := Keep.alloc [] w (.cells #[.int .i64 0, .int .i64 0] 46)
  obtain ⟨bx, hbx⟩ : ∃ bx, w.heap.size = bx := ⟨_, rfl⟩
  rw [hbx] at hx
  clear h
  go_enter Try.func19, Try.ntmps19
  go_wp2_with fail
  refine (rblock_any _ _).mono ?_
  rw [HB.out]
  rintro e w1 ⟨rfl, hK1⟩
  have hx1 := hK1.blk hx (by simp)
  have f0 : w1.frozen? ⟨bx, 0, none⟩ = false := by simp [World.frozen?, hx1]
  have f1 : w1.frozen? ⟨bx, 1, none⟩ = false := by simp [World.frozen?, hx1]
  have g0 : w1.cell? ⟨bx, 0, none⟩ = some (.int .i64 0) := by simp [World.cell?, hx1]
  have g1 : w1.cell? ⟨bx, 1, none⟩ = some (.int .i64 0) := by simp [World.cell?, hx1]
  have HK := (show Hid (∀ a b, Keep [] w ((w1.setCell ⟨bx, 0, none⟩ a).setCell ⟨bx, 1, none⟩ b)) from fun a b => Keep.two (hK.trans hK1) (by omega))
  go_wp2
  refine bodyPost_ret (results_cell_row rfl _ _ bx 46 #[.int .i64 0, .int .i64 1] (0, 0) _ rfl (two_set hx1) Try.underlying46 rfl (by kernel_rfl)) rfl ?_
  exact ⟨rfl, HK.out _ _⟩

set_option maxHeartbeats 4000000 in
theorem ralloc_over (mb k : Nat) (n : Int) (L : RLay) (F : List Nat) (ws : List Int) (kd : List PK) (w : World) (h : RpAt w mb L F ws (kindL kd) (bigL kd) kd) (hw : WF kd) (hc : classI n = -1) (hp : pagesI n = k) (hk1 : 1 ≤ k) (hr : runR (takenL kd) 0 k = -1) :
    Calls Try.prog 19 #[.pointer (some ⟨mb, 0, none⟩), .int .i64 n] w fun e w' => e = .returned (.agg #[.int .i64 0, .int .i64 3]) ∧ Keep [] w w' := by
  have hk16 : k ≤ 16 := by have := (pages_le n).2; omega
  have hb : blockI n = ((64 * k : Nat) : Int) := by rw [block_none n hc, hp]; omega
  obtain ⟨b, hbb⟩ : ∃ b, 64 * k = b := ⟨_, rfl⟩
  rw [hbb] at hb
  have HB := (show Hid (blockI n = (b : Nat)) from hb)
  have HC := (show Hid (classI n = -1) from hc)
  have hbn : decide ((b : Int) = 0) = false := by rw [decide_eq_false_iff_not]; omega
  have hq1 : (b : Int) / 64 = k := by omega
  have hq2 : (b : Int).tdiv 64 = k := by rw [Int.tdiv_eq_ediv_of_nonneg (by omega)]; exact hq1
  have HR := (show Hid (runR (takenL kd) 0 k = -1) from hr)
  have HM := (show Hid (RpAt w mb L F ws (kindL kd) (bigL kd) kd) from h)
  have HW := (show Hid (WF kd) from hw)
  have hx := heap_alloc_new w (.cells #[.int .i64 0, .int .i64 0] 46)
  have hK := Keep.alloc [] w (.cells #[.int .i64 0, .int .i64 0] 46)
  obtain ⟨bx, hbx⟩ : ∃ bx, w.heap.size = bx := ⟨_, rfl⟩
  rw [hbx] at hx
  obtain ⟨nn, hnn⟩ : ∃ nn, kd.length = nn := ⟨_, rfl⟩
  have HN := (show Hid (kd.length = nn) from hnn)
  have hn2 : nn ≤ 256 := by rw [← hnn]; exact hw.len2
  clear h hw hc hp hr hb hnn
  go_enter Try.func19, Try.ntmps19
  go_wp2_with fail
  refine (rblock_any _ _).mono ?_
  rw [HB.out]
  rintro e w1 ⟨rfl, hK1⟩
  go_wp2_with fail
  refine (rclass_any _ _).mono ?_
  rw [HC.out]
  rintro e w2 ⟨rfl, hK2⟩
  have hK3 := (hK.trans hK1).trans hK2
  have hM2 := HM.out.keep0 hK3
  go_wp2_with fail
  refine (rpages_ok mb L F ws (bigL kd) kd w2 hM2 HW.out.len1 HW.out.len2).mono ?_
  rw [HN.out]
  rintro e w3 ⟨g, rfl, hBR, hK4, hg⟩
  clear hM2
  go_wp2_with fail
  refine (run_dn g nn nn k (takenL kd) w3 hBR (by rw [takenL_length, HN.out]) (by omega) hk1).mono ?_
  rw [HR.out]
  rintro e w' ⟨rfl, rfl⟩
  have hx1 := ((hK1.trans hK2).trans hK4).blk hx (by simp)
  have f0 : w3.frozen? ⟨bx, 0, none⟩ = false := by simp [World.frozen?, hx1]
  have f1 : w3.frozen? ⟨bx, 1, none⟩ = false := by simp [World.frozen?, hx1]
  have g0 : w3.cell? ⟨bx, 0, none⟩ = some (.int .i64 0) := by simp [World.cell?, hx1]
  have g1 : w3.cell? ⟨bx, 1, none⟩ = some (.int .i64 0) := by simp [World.cell?, hx1]
  have HK := (show Hid (∀ a b, Keep [] w ((w3.setCell ⟨bx, 0, none⟩ a).setCell ⟨bx, 1, none⟩ b)) from fun a b => Keep.two (hK3.trans hK4) (by omega))
  go_wp2
  refine bodyPost_ret (results_cell_row rfl _ _ bx 46 #[.int .i64 0, .int .i64 3] (0, 0) _ rfl (two_set hx1) Try.underlying46 rfl (by kernel_rfl)) rfl ?_
  exact ⟨rfl, HK.out _ _⟩

/-- The kinds of pages that are taken one behind the other. -/
def sevens (ks : List Int) (p m : Nat) : List Int := ks.take p ++ List.replicate m 7 ++ ks.drop (p + m)
theorem sevens_length (ks : List Int) (p m : Nat) (h : p + m ≤ ks.length) : (sevens ks p m).length = ks.length := by simp [sevens]; omega
theorem sevens_get (xs : List Int) (o m i : Nat) (h : o + m ≤ xs.length) : (sevens xs o m)[i]?.getD 0 = if o ≤ i ∧ i < o + m then 7 else xs[i]?.getD 0 := by
  unfold sevens
  have h1 : (xs.take o).length = o := by simp; omega
  by_cases h2 : i < o
  · rw [if_neg (by omega), List.append_assoc, List.getElem?_append_left (by omega), List.getElem?_take, if_pos h2]
  · by_cases h3 : i < o + m
    · rw [if_pos ⟨by omega, h3⟩, List.getElem?_append_left (by simp; omega), List.getElem?_append_right (by omega), h1]
      rw [List.getElem?_replicate, if_pos (by omega)]; rfl
    · rw [if_neg (by omega), List.getElem?_append_right (by simp; omega)]
      simp only [List.length_append, h1, List.length_replicate, List.getElem?_drop]
      congr 2; omega
theorem sevens_step (ws : List Int) (a m : Nat) (h : a + m < ws.length) : (sevens ws a m).set (a + m) 7 = sevens ws a (m + 1) := by
  refine eq_of_getD (by rw [List.length_set, sevens_length _ _ _ (by omega), sevens_length _ _ _ (by omega)]) (fun t => ?_)
  rw [sevens_get _ _ _ _ (by omega)]
  by_cases e : t = a + m
  · subst e; rw [set_get_same _ _ _ (by rw [sevens_length _ _ _ (by omega)]; exact h), if_pos (by omega)]
  · rw [set_get_other _ _ _ _ (fun e' => e e'.symm), sevens_get _ _ _ _ (by omega)]
    by_cases e2 : a ≤ t ∧ t < a + m
    · rw [if_pos e2, if_pos (by omega)]
    · rw [if_neg e2, if_neg (by omega)]
theorem sevens_zero (ws : List Int) (a : Nat) : sevens ws a 0 = ws := by simp [sevens]
theorem kind_put (kd : List PK) (p k : Nat) (hk : 1 ≤ k) (h : p + k ≤ kd.length) : (sevens (kindL kd) p k).set p 6 = kindL (putParts kd p k) := by
  refine eq_of_getD (by rw [List.length_set, sevens_length _ _ _ (by rw [kindL_length]; exact h), kindL_length, kindL_length, putParts_length]) (fun t => ?_)
  rw [kindL_get, putParts_at _ _ _ _ h]
  by_cases e : t = p
  · subst e; rw [set_get_same _ _ _ (by rw [sevens_length _ _ _ (by rw [kindL_length]; exact h), kindL_length]; omega), if_pos (by omega), Nat.sub_self]; rfl
  · rw [set_get_other _ _ _ _ (fun e' => e e'.symm), sevens_get _ _ _ _ (by rw [kindL_length]; exact h), kindL_get]
    by_cases e2 : p ≤ t ∧ t < p + k
    · rw [if_pos e2, if_pos e2]
      obtain ⟨m, hm⟩ : ∃ m, t - p = m + 1 := ⟨t - p - 1, by omega⟩
      rw [hm]; rfl
    · rw [if_neg e2, if_neg e2]

set_option maxHeartbeats 4000000 in
theorem ralloc_large (mb k p : Nat) (n : Int) (L : RLay) (F : List Nat) (ws : List Int) (kd : List PK) (w : World) (h : RpAt w mb L F ws (kindL kd) (bigL kd) kd) (hw : WF kd) (hc : classI n = -1) (hp : pagesI n = k) (hk1 : 1 ≤ k) (hr : runR (takenL kd) 0 k = p) :
    Calls Try.prog 19 #[.pointer (some ⟨mb, 0, none⟩), .int .i64 n] w fun e w' => e = .returned (.agg #[.int .i64 ((64 * p : Nat) : Int), .int .i64 0]) ∧ RpAt w' mb L F (fill0 ws (64 * p) (64 * k)) (kindL (putParts kd p k)) (bigL (putParts kd p k)) (putParts kd p k) ∧ Keep F w w' := by
  have hk16 : k ≤ 16 := by have := (pages_le n).2; omega
  have hb : blockI n = ((64 * k : Nat) : Int) := by rw [block_none n hc, hp]; omega
  obtain ⟨b, hbb⟩ : ∃ b, 64 * k = b := ⟨_, rfl⟩
  rw [hbb] at hb
  have HB := (show Hid (blockI n = (b : Nat)) from hb)
  have HC := (show Hid (classI n = -1) from hc)
  have hbn : decide ((b : Int) = 0) = false := by rw [decide_eq_false_iff_not]; omega
  have hq1 : (b : Int) / 64 = k := by omega
  have hq2 : (b : Int).tdiv 64 = k := by rw [Int.tdiv_eq_ediv_of_nonneg (by omega)]; exact hq1
  have HR := (show Hid (runR (takenL kd) 0 k = p) from hr)
  have hcl := run_clear hk1 hr
  obtain ⟨hpl, hfree⟩ := clear_free hcl
  have HBG := (show Hid (bigL (putParts kd p k) = (bigL kd).set p k) from big_put kd p k hk1 hcl)
  have HKD := (show Hid ((sevens (kindL kd) p k).set p 6 = kindL (putParts kd p k)) from kind_put kd p k hk1 hpl)
  have HSO := (show Hid (∀ q, kat (putParts kd p k) q = kat kd q ∨ (∀ c xs, kat (putParts kd p k) q ≠ .small c xs) ∧ (∀ c xs, kat kd q ≠ .small c xs)) from fun q => by
    rw [putParts_at kd p k q hpl]
    by_cases e : p ≤ q ∧ q < p + k
    · right; rw [if_pos e, hfree q e.1 e.2]; simp
    · left; rw [if_neg e])
  have f := h.f
  have hFlt := h.lt
  have HM := (show Hid (RpAt w mb L F ws (kindL kd) (bigL kd) kd) from h)
  have HW := (show Hid (WF kd) from hw)
  have hx := heap_alloc_new w (.cells #[.int .i64 0, .int .i64 0] 46)
  have hK := Keep.alloc [] w (.cells #[.int .i64 0, .int .i64 0] 46)
  obtain ⟨bx, hbx⟩ : ∃ bx, w.heap.size = bx := ⟨_, rfl⟩
  rw [hbx] at hx
  obtain ⟨nn, hnn⟩ : ∃ nn, kd.length = nn := ⟨_, rfl⟩
  have HN := (show Hid (kd.length = nn) from hnn)
  have hn2 : nn ≤ 256 := by rw [← hnn]; exact hw.len2
  rw [hnn] at hpl
  have hbF : bx ∉ F := fun e => by have := hFlt _ e; omega
  obtain ⟨z, hz⟩ : ∃ z, p + k = z := ⟨_, rfl⟩
  have hzi : (p : Int) + k = z := by omega
  have hzn : z ≤ nn := by omega
  have hp0 : decide ((p : Int) < 0) = false := by rw [decide_eq_false_iff_not]; omega
  obtain ⟨y, hy⟩ : ∃ y : Nat, 64 * p = y := ⟨_, rfl⟩
  have hyi : (p : Int) * 64 = y := by omega
  rw [hy]
  rw [hbb]
  clear hcl hfree
  clear h hw hc hp hr hb hnn
  go_enter Try.func19, Try.ntmps19
  go_wp2_with fail
  refine (rblock_any _ _).mono ?_
  rw [HB.out]
  rintro e w1 ⟨rfl, hK1⟩
  go_wp2_with fail
  refine (rclass_any _ _).mono ?_
  rw [HC.out]
  rintro e w2 ⟨rfl, hK2⟩
  have hK3 := (hK.trans hK1).trans hK2
  have hM2 := HM.out.keep0 hK3
  go_wp2_with fail
  refine (rpages_ok mb L F ws (bigL kd) kd w2 hM2 HW.out.len1 HW.out.len2).mono ?_
  rw [HN.out]
  rintro e w3 ⟨g, rfl, hBR, hK4, hg⟩
  clear hM2
  go_wp2_with fail
  refine (run_dn g nn nn k (takenL kd) w3 hBR (by rw [takenL_length, HN.out]) (by omega) hk1).mono ?_
  rw [HR.out]
  rintro e w' ⟨rfl, rfl⟩
  have hx1 := ((hK1.trans hK2).trans hK4).blk hx (by simp)
  have hM3 := HM.out.keep0 (hK3.trans hK4)
  have hKF := (hK3.trans hK4).mono (T := F) (by simp)
  clear hBR hK1 hK2 hK3 hK4 hx hK hg
  go_wp2_with fail
  go_loopw [9] (fun i wr => ∃ j : Nat, i = .int .i64 j ∧ p ≤ j ∧ j ≤ z ∧ RpAt wr mb L F ws (sevens (kindL kd) p (j - p)) (bigL kd) kd ∧ Keep F w wr ∧ wr.heap[bx]? = some (.cells #[.int .i64 0, .int .i64 0] 46 (0, 0))) (fun i _ => z - (intOf i).toNat)
  case atStart => exact ⟨p, rfl, by omega, by omega, by rw [Nat.sub_self, sevens_zero]; exact hM3, hKF, hx1⟩
  case round =>
    obtain ⟨j, rfl, hj1, hj2, hR, hK, hxr⟩ := hrel
    obtain ⟨w4, rfl⟩ : ∃ w4, w4 = wr := ⟨_, rfl⟩
    clear hM3 hKF hx1
    by_cases hlt : j < z
    · have c1 := hR.c1
      rw [HN.out] at c1
      have ck := hR.ck (p := j) (by rw [HN.out]; omega)
      have fk := hR.rowK.free j
      have hR2 := hR.setK j 7
      have e : (sevens (kindL kd) p (j - p)).set j 7 = sevens (kindL kd) p (j + 1 - p) := by
        have := sevens_step (kindL kd) p (j - p) (by rw [kindL_length, HN.out]; omega)
        rw [show p + (j - p) = j by omega] at this
        rw [this, show j - p + 1 = j + 1 - p by omega]
      rw [e] at hR2
      have HR2 := (show Hid (RpAt (w4.setCell ⟨L.gk, j, none⟩ (.int .i64 7)) mb L F ws (sevens (kindL kd) p (j + 1 - p)) (bigL kd) kd) from hR2)
      have HK2 := (show Hid (Keep F w (w4.setCell ⟨L.gk, j, none⟩ (.int .i64 7))) from hK.trans (Keep.setCell _ _ f.2.2.1))
      have HX2 := (show Hid ((w4.setCell ⟨L.gk, j, none⟩ (.int .i64 7)).heap[bx]? = some (.cells #[.int .i64 0, .int .i64 0] 46 (0, 0))) from (Keep.setCell (S := F) w4 _ f.2.2.1).blk hxr hbF)
      clear hR hR2 e hK hxr
      go_wp2
      go_roundw
      case rel => exact ⟨j + 1, by go_num, by omega, by omega, HR2.out, HK2.out, HX2.out⟩
      case measure => simp [intOf]; omega
    · obtain rfl : j = z := by omega
      rw [show j - p = k by omega] at hR
      have c1 := hR.c1
      rw [HN.out] at c1
      have ck := hR.ck (p := p) (by rw [HN.out]; omega)
      have fk := hR.rowK.free p
      have hR5 := hR.setK p 6
      rw [HKD.out] at hR5
      have c2 := hR5.c2
      rw [HN.out] at c2
      have cm := hR5.cm (p := p) (by rw [HN.out]; omega)
      have fm := hR5.rowM.free p
      have hR6 := (hR5.setM p k).other (putParts_length kd p k) HSO.out
      rw [← HBG.out] at hR6
      have hK6 := (hK.trans (Keep.setCell w4 (.int .i64 6) (a := ⟨L.gk, p, none⟩) f.2.2.1)).trans (Keep.setCell _ (.int .i64 (k : Int)) (a := ⟨L.gm, p, none⟩) f.2.2.2.1)
      have hx6 := (Keep.setCell (S := F) _ (.int .i64 (k : Int)) (a := ⟨L.gm, p, none⟩) f.2.2.2.1).blk ((Keep.setCell (S := F) w4 (.int .i64 6) (a := ⟨L.gk, p, none⟩) f.2.2.1).blk hxr hbF) hbF
      have HR6 := (show Hid (RpAt ((w4.setCell ⟨L.gk, p, none⟩ (.int .i64 6)).setCell ⟨L.gm, p, none⟩ (.int .i64 (k : Int))) mb L F ws (kindL (putParts kd p k)) (bigL (putParts kd p k)) (putParts kd p k)) from hR6)
      clear hR hR5 hR6 hK hxr
      go_wp2_with fail
      generalize (w4.setCell ⟨L.gk, p, none⟩ (.int .i64 6)).setCell ⟨L.gm, p, none⟩ (.int .i64 (k : Int)) = w6 at *
      refine (rfill_any mb y b L F ws _ _ _ w6 HR6.out (by rw [putParts_length, HN.out]; omega) (by rw [putParts_length, HN.out]; omega)).mono ?_
      rintro e w7 ⟨rfl, hR7, hK7⟩
      have hK8 := hK6.trans (hK7.mono (fun q e => by simp at e; subst e; exact f.2.1))
      have hx7 := hK7.blk hx6 (by simp; intro e; exact hbF (e ▸ f.2.1))
      have f0 : w7.frozen? ⟨bx, 0, none⟩ = false := by simp [World.frozen?, hx7]
      have f1 : w7.frozen? ⟨bx, 1, none⟩ = false := by simp [World.frozen?, hx7]
      have g0 : w7.cell? ⟨bx, 0, none⟩ = some (.int .i64 0) := by simp [World.cell?, hx7]
      have g1 : w7.cell? ⟨bx, 1, none⟩ = some (.int .i64 0) := by simp [World.cell?, hx7]
      have HKZ := (show Hid (∀ a b, Keep F w ((w7.setCell ⟨bx, 0, none⟩ a).setCell ⟨bx, 1, none⟩ b)) from fun a b => Keep.two hK8 (by omega))
      have HRZ := (show Hid (∀ u v, RpAt ((w7.setCell ⟨bx, 0, none⟩ u).setCell ⟨bx, 1, none⟩ v) mb L F (fill0 ws y b) (kindL (putParts kd p k)) (bigL (putParts kd p k)) (putParts kd p k)) from fun u v => hR7.keep (S := [bx]) ((Keep.setCell w7 u (a := ⟨bx, 0, none⟩) (by simp)).trans (Keep.setCell _ v (a := ⟨bx, 1, none⟩) (by simp))) (fun q hq e => by simp at e; subst e; exact hbF hq))
      clear hR7 hK7 hK8 HR6 hx6 hK6
      go_wp2
      refine bodyPost_ret (results_cell_row rfl _ _ bx 46 #[.int .i64 y, .int .i64 0] (0, 0) _ rfl (two_set hx7) Try.underlying46 rfl (by kernel_rfl)) rfl ?_
      exact ⟨rfl, HRZ.out _ _, HKZ.out _ _⟩

end Go.Proofs.Ytfmfnmpibnddmaa
