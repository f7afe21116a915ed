/-
  Alloc of the document's own space: a new page of a class; and all of it.
-/
import Derived.Test.YtfmfnmpibnddmaaRSpaceAllocN
import Derived.RegionTactic
import Derived.ChangeAlike
namespace Go.Proofs.Ytfmfnmpibnddmaa
open Go.RowKit

set_option maxRecDepth 100000 in
set_option maxHeartbeats 8000000 in
theorem ralloc_new0 (mb p : Nat) (n : Int) (L : RLay) (F : List Nat) (ws : List Int) (kd : List PK) (w : World) (h : RpAt w mb L F ws (kindL kd) (bigL kd) kd) (hw : WF kd) (hcl : classI n = 0) (hp : nextR (hasL 0 kd) 0 true = -1) (hr : runR (takenL kd) 0 1 = p) :
    Calls Try.prog 19 #[.pointer (some ⟨mb, 0, none⟩), .int .i64 n] w fun e w' => ∃ L' F', e = .returned (.agg #[.int .i64 ((64 * p : Nat) : Int), .int .i64 0]) ∧ RpAt w' mb L' F' (fill0 ws (64 * p) 2) (kindL (kd.set p (.small 0 ((offs 32).set 0 true)))) (bigL (kd.set p (.small 0 ((offs 32).set 0 true)))) (kd.set p (.small 0 ((offs 32).set 0 true))) ∧ Keep F w w' ∧ Grows w F F' := by
  have hc : (0 : Nat) < 5 := by omega
  have HPN := (show Hid (∀ t, (kat kd t).has 0 = false) from none_has hp)
  have HR := (show Hid (runR (takenL kd) 0 1 = p) from hr)
  have hbl : blockI n = ((2 : Nat) : Int) := by rw [block_class n 0 hcl]; rfl
  have HB := (show Hid (blockI n = 2) from hbl)
  have HC := (show Hid (classI n = 0) from hcl)
  have hcr := run_clear (by omega) hr
  obtain ⟨hpl, hfree⟩ := clear_free hcr
  have HFP := (show Hid (kat kd p = .free) from hfree p (by omega) (by omega))
  have HPL := (show Hid (p < kd.length) from by show _ < _; omega)
  have hp0 : decide ((p : Int) < 0) = false := by rw [decide_eq_false_iff_not]; omega
  have f := h.f
  have hFlt := h.lt
  have HM := (show Hid (RpAt w mb L F ws (kindL kd) (bigL kd) kd) from h)
  have HW := (show Hid (WF kd) from hw)
  have hx := heap_alloc_new w (.cells #[.int .i64 0, .int .i64 0] 46)
  have hK := Keep.alloc [] w (.cells #[.int .i64 0, .int .i64 0] 46)
  obtain ⟨bx, hbx⟩ : ∃ bx, w.heap.size = bx := ⟨_, rfl⟩
  rw [hbx] at hx
  obtain ⟨nn, hnn⟩ : ∃ nn, kd.length = nn := ⟨_, rfl⟩
  have HN := (show Hid (kd.length = nn) from hnn)
  have hn2 : nn ≤ 256 := by rw [← hnn]; exact hw.len2
  have hpnn : p < nn := by omega
  have hbF : bx ∉ F := fun e => by have := hFlt _ e; omega
  obtain ⟨y, hy⟩ : ∃ y : Nat, 64 * p = y := ⟨_, rfl⟩
  have hyi : (p : Int) * 64 = y := by omega
  have hyb : y ≤ 20000 := by omega
  have HLE := (show Hid (y + 2 ≤ 64 * kd.length) from by show _ ≤ _; omega)
  rw [hy]
  have hmk : ∀ w, (Instr.makeSlice 71 (.int .i64 32) (.int .i64 32)).run Try.prog w = .ok (.slice (some ⟨w.heap.size, 0, none⟩) 32 32) (w.alloc (.cells (madeCells #[.bool false] 32) 4)) :=
    fun w => run_make_row' (P := Try.prog) 71 4 (.bool false) 1 Try.underlying71 Try.infoBool rfl .i64 .i64 32 (by omega) (by omega) w
  clear hcr hfree
  have HLX := (show Hid (∀ t ys, kat kd t = .small 0 ys → ys.length ≤ 32) from fun t ys e => by
    obtain ⟨_, hl, _⟩ := hw.small t 0 ys e
    have := (sz_facts 0 hc).2.2.2.2.2.1
    show ys.length ≤ 32
    omega)
  clear h hw hcl hp hr hbl hnn hy
  go_enter Try.func19, Try.ntmps19
  go_wp2_with fail
  refine (rblock_any _ _).mono ?_
  rw [HB.out]
  rintro e w1 ⟨rfl, hK1⟩
  go_wp2_with fail
  refine (rclass_any _ _).mono ?_
  rw [HC.out]
  rintro e w2 ⟨rfl, hK2⟩
  have hK3 := (hK.trans hK1).trans hK2
  have hM2 := HM.out.keep0 hK3
  have hx2 := (hK1.trans hK2).blk hx (by simp)
  have c1 := hM2.c1
  have c3 := hM2.c3
  rw [HN.out] at c1 c3
  have HM2 := (show Hid (RpAt w2 mb L F ws (kindL kd) (bigL kd) kd) from hM2)
  clear hM2 hK1 hK2 hK hx
  go_wp2_with fail
  go_loop [10] (fun v => ∃ j : Nat, v = .int .i64 j ∧ j ≤ nn) (fun v => nn - (intOf v).toNat)
  case atStart => exact ⟨0, rfl, by omega⟩
  case round =>
    obtain ⟨j, rfl, hj⟩ := hrel
    by_cases hlt : j < nn
    · have ck := HM2.out.ck (p := j) (by rw [HN.out]; omega)
      rw [kindL_get] at ck
      have hjn : decide ((j : Int) < (nn : Int)) = true := by rw [decide_eq_true_iff]; omega
      have HF := HPN.out j
      rcases kind_look (kd := kd) 0 j hc with ⟨hk1, _⟩ | ⟨ys, hk1, hh⟩
      · generalize (kat kd j).kind = kv at *
        have hkd : decide (kv = 0 + 1) = false := by rw [decide_eq_false_iff_not]; exact hk1
        have hkd2 : decide (kv = 1) = false := by rw [decide_eq_false_iff_not]; exact hk1
        have hkd3 : kv ≠ 1 := hk1
        clear HF
        go_wp2_with fail
        go_round
        case rel => exact ⟨j + 1, by go_num, by omega⟩
        case measure => simp [intOf]; omega
      · rw [hk1] at ck
        have hck : w2.cell? ⟨L.gk, j, none⟩ = some (.int .i64 1) := ck
        have ct : w2.cell? ⟨L.gt, j, none⟩ = some (.slice (some ⟨L.T j, 0, none⟩) ys.length ys.length) := by
          have := HM2.out.ct (p := j) (by rw [HN.out]; omega)
          rw [hk1] at this; exact this
        have hBR := HM2.out.page j 0 ys hk1
        have HYA := (show Hid (nextR ys (0 : Int).toNat false = -1) from by
          have ha := bool_no HF hh
          unfold allB at ha
          rcases nextR_spec ys false _ 0 rfl with ⟨e, _⟩ | ⟨l, e, _⟩
          · exact e
          · rw [e] at ha; have := of_decide_eq_true ha; omega)
        have hyl := HLX.out j ys hk1
        clear HF hh ck hk1
        go_wp2_with (first | (go_at_call 43; refine (rnext_any (L.T j) ys.length ys.length 0 false ys w2 hBR rfl (by omega) (by omega)).mono ?_; rw [HYA.out]; rintro e w' ⟨rfl, rfl⟩))
        go_round
        case rel => exact ⟨j + 1, by go_num, by omega⟩
        case measure => simp [intOf]; omega
    · obtain rfl : j = nn := by omega
      go_wp2_with fail
      refine (rpages_ok mb L F ws (bigL kd) kd w2 HM2.out HW.out.len1 HW.out.len2).mono ?_
      rw [HN.out]
      rintro e w3 ⟨g, rfl, hBR, hK4, hg⟩
      go_wp2_with fail
      refine (run_dn g j j 1 (takenL kd) w3 hBR (by rw [takenL_length, HN.out]) (by omega) (by omega)).mono ?_
      rw [HR.out]
      rintro e w' ⟨rfl, rfl⟩
      have hx1 := hK4.blk hx2 (by simp)
      have hM4 := HM2.out.keep0 hK4
      have c1 := hM4.c1
      have c3 := hM4.c3
      rw [HN.out] at c1 c3
      have ckp := hM4.ck (p := p) HPL.out
      have fkp := hM4.rowK.free p
      have hM5 := hM4.setK p 1
      have c3b := hM5.c3
      rw [HN.out] at c3b
      have ctp := hM5.ct (p := p) HPL.out
      have ftp := hM5.ft p
      have hx5 := (Keep.setCell (S := F) w3 (.int .i64 1) (a := ⟨L.gk, p, none⟩) f.2.2.1).blk hx1 hbF
      have hK5 := ((hK3.trans hK4).mono (T := F) (by simp)).trans (Keep.setCell w3 (.int .i64 1) (a := ⟨L.gk, p, none⟩) f.2.2.1)
      go_wp2_with fail
      generalize w3.setCell ⟨L.gk, p, none⟩ (.int .i64 1) = w5 at *
      have hM6 := hM5.keep0 (Keep.alloc [] w5 (.cells (madeCells #[.bool false] 32) 4))
      have c3d := hM6.c3
      rw [HN.out] at c3d
      have ctd := hM6.ct (p := p) HPL.out
      have ftd := hM6.ft p
      have hBR0 := BRow.made w5 4 32
      have hq5 : bx < w5.heap.size := lt_of_block hx5
      have hw5 : w.heap.size ≤ w5.heap.size := hK5.size
      have hqF : w5.heap.size ∉ F := fun e => by have := hM5.lt _ e; omega
      have hM7 := (hM6.gain (p := p) (c := 0) (q := w5.heap.size) (xs := offs 32) HPL.out hBR0 hqF).keep0 (Keep.drew [] _)
      rw [offs_length] at hM7
      have hK7 := ((hK5.trans ((Keep.alloc [] w5 (.cells (madeCells #[.bool false] 32) 4)).mono (by simp))).trans (Keep.setCell (S := F) _ (.slice (some ⟨w5.heap.size, 0, none⟩) 32 32) (a := ⟨L.gt, p, none⟩) f.2.2.2.2)).trans (Keep.drew F _)
      have hx7 := (Keep.drew F _).blk ((Keep.setCell (S := F) _ (.slice (some ⟨w5.heap.size, 0, none⟩) 32 32) (a := ⟨L.gt, p, none⟩) f.2.2.2.2).blk ((Keep.alloc F w5 (.cells (madeCells #[.bool false] 32) 4)).blk hx5 hbF) hbF) hbF
      go_region
      generalize ((w5.alloc (.cells (madeCells #[.bool false] 32) 4)).setCell ⟨L.gt, p, none⟩ (.slice (some ⟨w5.heap.size, 0, none⟩) 32 32)).drew = w8 at *
      obtain ⟨q, hq⟩ : ∃ q, w5.heap.size = q := ⟨_, rfl⟩
      rw [hq] at hM7 hqF hq5 hw5
      clear hM6 c3d ctd ftd hM5 c3b ctp ftp hM4 c1 c3 ckp fkp hBR0 hBR hK5 hx5 hq
      have hkat := kat_set_same kd p (.small 0 (offs 32)) HPL.out
      have c3e := hM7.c3
      rw [List.length_set, HN.out] at c3e
      have c3f : w8.cell? ⟨mb, 3, none⟩ = some (.slice (some ⟨L.gt, 0, none⟩) j j) := c3e
      have cte : w8.cell? ⟨L.gt, p, none⟩ = some (.slice (some ⟨q, 0, none⟩) 32 32) := by
        have := hM7.ct (p := p) (by rw [List.length_set]; exact HPL.out)
        rw [hkat] at this
        have e : (L.more p q).T p = q := if_pos rfl
        have e2 : (PK.small 0 (offs 32)).slot ((L.more p q).T p) = .slice (some ⟨q, 0, none⟩) 32 32 := by rw [e]; show Value.slice _ (offs 32).length (offs 32).length = _; rw [offs_length]
        rw [e2] at this
        exact this
      have hBRe : BRow w8 4 q (offs 32) := by
        have := hM7.page p 0 (offs 32) hkat
        have e : (L.more p q).T p = q := if_pos rfl
        rw [e] at this; exact this
      have cxe := hBRe.cell (i := 0) (by rw [offs_length]; omega)
      have fxe := hBRe.free 0
      have HNX := (show Hid (nextR (offs 32) (0 : Int).toNat false = 0) from nextR_is _ _ _ 0 (by omega) (by rw [offs_length]; omega) (offs_get _ _) (fun t a b => by omega))
      have hS9 := hM7.inner (i := 0) (b := true) hkat
      rw [List.set_set, show (L.more p q).T p = q from if_pos rfl] at hS9
      have HS9 := (show Hid (RpAt (w8.setCell ⟨q, 0, none⟩ (.bool true)) mb (L.more p q) (q :: F) ws ((kindL kd).set p 1) (bigL kd) (kd.set p (.small 0 ((offs 32).set 0 true)))) from hS9)
      have hbq : bx ∉ q :: F := fun e => by
        rcases List.mem_cons.1 e with e | e
        · omega
        · exact hbF e
      have hK9 := (hK7.mono (T := q :: F) (fun _ e => List.mem_cons_of_mem _ e)).trans (Keep.setCell w8 (.bool true) (a := ⟨q, 0, none⟩) (by simp))
      have hx9 := (Keep.setCell (S := q :: F) w8 (.bool true) (a := ⟨q, 0, none⟩) (by simp)).blk hx7 hbq
      clear hM7 hS9 c3e
      go_wp2_with (first | (go_at_call 43; refine (rnext_any q 32 32 0 false (offs 32) w8 hBRe (offs_length _) (by omega) (by omega)).mono ?_; rw [HNX.out]; rintro e w' ⟨rfl, rfl⟩))
      generalize w8.setCell ⟨q, 0, none⟩ (.bool true) = w10 at *
      refine (rfill_any mb y 2 (L.more p q) (q :: F) ws _ _ _ w10 HS9.out (by rw [List.length_set]; exact HLE.out) (by rw [List.length_set, HN.out]; exact hn2)).mono ?_
      rintro e w11 ⟨rfl, hR11, hK11⟩
      have hK12 := hK9.trans (hK11.mono (fun k e => by simp at e; subst e; exact List.mem_cons_of_mem _ f.2.1))
      have hx11 := hK11.blk hx9 (by simp; intro e; exact hbF (e ▸ f.2.1))
      have f0 : w11.frozen? ⟨bx, 0, none⟩ = false := by simp [World.frozen?, hx11]
      have f1 : w11.frozen? ⟨bx, 1, none⟩ = false := by simp [World.frozen?, hx11]
      have g0 : w11.cell? ⟨bx, 0, none⟩ = some (.int .i64 0) := by simp [World.cell?, hx11]
      have g1 : w11.cell? ⟨bx, 1, none⟩ = some (.int .i64 0) := by simp [World.cell?, hx11]
      have HKZ := (show Hid (∀ a b, Keep F w ((w11.setCell ⟨bx, 0, none⟩ a).setCell ⟨bx, 1, none⟩ b)) from fun a b => (Keep.two hK12 (by omega)).drop (fun k e hlt => by
        rcases List.mem_cons.1 e with e | e
        · omega
        · exact e))
      have HRZ := (show Hid (∀ u v, RpAt ((w11.setCell ⟨bx, 0, none⟩ u).setCell ⟨bx, 1, none⟩ v) mb (L.more p q) (q :: F) (fill0 ws y 2) ((kindL kd).set p 1) (bigL kd) (kd.set p (.small 0 ((offs 32).set 0 true)))) from fun u v => hR11.keep (S := [bx]) ((Keep.setCell w11 u (a := ⟨bx, 0, none⟩) (by simp)).trans (Keep.setCell _ v (a := ⟨bx, 1, none⟩) (by simp))) (fun k hq e => by simp at e; subst e; exact hbq hq))
      have HKS := (show Hid (kindL (kd.set p (.small 0 ((offs 32).set 0 true))) = (kindL kd).set p 1 ∧ bigL (kd.set p (.small 0 ((offs 32).set 0 true))) = bigL kd) from ⟨by simp [kindL, List.map_set, PK.kind], by
        refine eq_of_getD (by simp [bigL]) (fun t => ?_)
        rw [bigL_get, bigL_get, kat_set _ _ _ _ HPL.out]
        split
        · rename_i e; subst e; rw [HFP.out]; rfl
        · rfl⟩)
      have HGR := (show Hid (Grows w F (q :: F)) from fun k e => by
        rcases List.mem_cons.1 e with e | e
        · right; omega
        · exact .inl e)
      clear hR11 hK11 hK12 HS9 hx9 hK9
      go_wp2
      refine bodyPost_ret (results_cell_row rfl _ _ bx 46 #[.int .i64 y, .int .i64 0] (0, 0) _ rfl (two_set hx11) Try.underlying46 rfl (by kernel_rfl)) rfl ?_
      refine ⟨L.more p q, q :: F, rfl, ?_, HKZ.out _ _, HGR.out⟩
      rw [HKS.out.1, HKS.out.2]
      exact HRZ.out _ _

set_option maxRecDepth 100000 in
set_option maxHeartbeats 8000000 in
theorem ralloc_new1 (mb p : Nat) (n : Int) (L : RLay) (F : List Nat) (ws : List Int) (kd : List PK) (w : World) (h : RpAt w mb L F ws (kindL kd) (bigL kd) kd) (hw : WF kd) (hcl : classI n = 1) (hp : nextR (hasL 1 kd) 0 true = -1) (hr : runR (takenL kd) 0 1 = p) :
    Calls Try.prog 19 #[.pointer (some ⟨mb, 0, none⟩), .int .i64 n] w fun e w' => ∃ L' F', e = .returned (.agg #[.int .i64 ((64 * p : Nat) : Int), .int .i64 0]) ∧ RpAt w' mb L' F' (fill0 ws (64 * p) 4) (kindL (kd.set p (.small 1 ((offs 16).set 0 true)))) (bigL (kd.set p (.small 1 ((offs 16).set 0 true)))) (kd.set p (.small 1 ((offs 16).set 0 true))) ∧ Keep F w w' ∧ Grows w F F' := by
  have hc : (1 : Nat) < 5 := by omega
  have HPN := (show Hid (∀ t, (kat kd t).has 1 = false) from none_has hp)
  have HR := (show Hid (runR (takenL kd) 0 1 = p) from hr)
  have hbl : blockI n = ((4 : Nat) : Int) := by rw [block_class n 1 hcl]; rfl
  have HB := (show Hid (blockI n = 4) from hbl)
  have HC := (show Hid (classI n = 1) from hcl)
  have hcr := run_clear (by omega) hr
  obtain ⟨hpl, hfree⟩ := clear_free hcr
  have HFP := (show Hid (kat kd p = .free) from hfree p (by omega) (by omega))
  have HPL := (show Hid (p < kd.length) from by show _ < _; omega)
  have hp0 : decide ((p : Int) < 0) = false := by rw [decide_eq_false_iff_not]; omega
  have f := h.f
  have hFlt := h.lt
  have HM := (show Hid (RpAt w mb L F ws (kindL kd) (bigL kd) kd) from h)
  have HW := (show Hid (WF kd) from hw)
  have hx := heap_alloc_new w (.cells #[.int .i64 0, .int .i64 0] 46)
  have hK := Keep.alloc [] w (.cells #[.int .i64 0, .int .i64 0] 46)
  obtain ⟨bx, hbx⟩ : ∃ bx, w.heap.size = bx := ⟨_, rfl⟩
  rw [hbx] at hx
  obtain ⟨nn, hnn⟩ : ∃ nn, kd.length = nn := ⟨_, rfl⟩
  have HN := (show Hid (kd.length = nn) from hnn)
  have hn2 : nn ≤ 256 := by rw [← hnn]; exact hw.len2
  have hpnn : p < nn := by omega
  have hbF : bx ∉ F := fun e => by have := hFlt _ e; omega
  obtain ⟨y, hy⟩ : ∃ y : Nat, 64 * p = y := ⟨_, rfl⟩
  have hyi : (p : Int) * 64 = y := by omega
  have hyb : y ≤ 20000 := by omega
  have HLE := (show Hid (y + 4 ≤ 64 * kd.length) from by show _ ≤ _; omega)
  rw [hy]
  have hmk : ∀ w, (Instr.makeSlice 71 (.int .i64 16) (.int .i64 16)).run Try.prog w = .ok (.slice (some ⟨w.heap.size, 0, none⟩) 16 16) (w.alloc (.cells (madeCells #[.bool false] 16) 4)) :=
    fun w => run_make_row' (P := Try.prog) 71 4 (.bool false) 1 Try.underlying71 Try.infoBool rfl .i64 .i64 16 (by omega) (by omega) w
  clear hcr hfree
  have HLX := (show Hid (∀ t ys, kat kd t = .small 1 ys → ys.length ≤ 32) from fun t ys e => by
    obtain ⟨_, hl, _⟩ := hw.small t 1 ys e
    have := (sz_facts 1 hc).2.2.2.2.2.1
    show ys.length ≤ 32
    omega)
  clear h hw hcl hp hr hbl hnn hy
  go_enter Try.func19, Try.ntmps19
  go_wp2_with fail
  refine (rblock_any _ _).mono ?_
  rw [HB.out]
  rintro e w1 ⟨rfl, hK1⟩
  go_wp2_with fail
  refine (rclass_any _ _).mono ?_
  rw [HC.out]
  rintro e w2 ⟨rfl, hK2⟩
  have hK3 := (hK.trans hK1).trans hK2
  have hM2 := HM.out.keep0 hK3
  have hx2 := (hK1.trans hK2).blk hx (by simp)
  have c1 := hM2.c1
  have c3 := hM2.c3
  rw [HN.out] at c1 c3
  have HM2 := (show Hid (RpAt w2 mb L F ws (kindL kd) (bigL kd) kd) from hM2)
  clear hM2 hK1 hK2 hK hx
  go_wp2_with fail
  go_loop [10] (fun v => ∃ j : Nat, v = .int .i64 j ∧ j ≤ nn) (fun v => nn - (intOf v).toNat)
  case atStart => exact ⟨0, rfl, by omega⟩
  case round =>
    obtain ⟨j, rfl, hj⟩ := hrel
    by_cases hlt : j < nn
    · have ck := HM2.out.ck (p := j) (by rw [HN.out]; omega)
      rw [kindL_get] at ck
      have hjn : decide ((j : Int) < (nn : Int)) = true := by rw [decide_eq_true_iff]; omega
      have HF := HPN.out j
      rcases kind_look (kd := kd) 1 j hc with ⟨hk1, _⟩ | ⟨ys, hk1, hh⟩
      · generalize (kat kd j).kind = kv at *
        have hkd : decide (kv = 1 + 1) = false := by rw [decide_eq_false_iff_not]; exact hk1
        have hkd2 : decide (kv = 2) = false := by rw [decide_eq_false_iff_not]; exact hk1
        have hkd3 : kv ≠ 2 := hk1
        clear HF
        go_wp2_with fail
        go_round
        case rel => exact ⟨j + 1, by go_num, by omega⟩
        case measure => simp [intOf]; omega
      · rw [hk1] at ck
        have hck : w2.cell? ⟨L.gk, j, none⟩ = some (.int .i64 2) := ck
        have ct : w2.cell? ⟨L.gt, j, none⟩ = some (.slice (some ⟨L.T j, 0, none⟩) ys.length ys.length) := by
          have := HM2.out.ct (p := j) (by rw [HN.out]; omega)
          rw [hk1] at this; exact this
        have hBR := HM2.out.page j 1 ys hk1
        have HYA := (show Hid (nextR ys (0 : Int).toNat false = -1) from by
          have ha := bool_no HF hh
          unfold allB at ha
          rcases nextR_spec ys false _ 0 rfl with ⟨e, _⟩ | ⟨l, e, _⟩
          · exact e
          · rw [e] at ha; have := of_decide_eq_true ha; omega)
        have hyl := HLX.out j ys hk1
        clear HF hh ck hk1
        go_wp2_with (first | (go_at_call 43; refine (rnext_any (L.T j) ys.length ys.length 0 false ys w2 hBR rfl (by omega) (by omega)).mono ?_; rw [HYA.out]; rintro e w' ⟨rfl, rfl⟩))
        go_round
        case rel => exact ⟨j + 1, by go_num, by omega⟩
        case measure => simp [intOf]; omega
    · obtain rfl : j = nn := by omega
      go_wp2_with fail
      refine (rpages_ok mb L F ws (bigL kd) kd w2 HM2.out HW.out.len1 HW.out.len2).mono ?_
      rw [HN.out]
      rintro e w3 ⟨g, rfl, hBR, hK4, hg⟩
      go_wp2_with fail
      refine (run_dn g j j 1 (takenL kd) w3 hBR (by rw [takenL_length, HN.out]) (by omega) (by omega)).mono ?_
      rw [HR.out]
      rintro e w' ⟨rfl, rfl⟩
      have hx1 := hK4.blk hx2 (by simp)
      have hM4 := HM2.out.keep0 hK4
      have c1 := hM4.c1
      have c3 := hM4.c3
      rw [HN.out] at c1 c3
      have ckp := hM4.ck (p := p) HPL.out
      have fkp := hM4.rowK.free p
      have hM5 := hM4.setK p 2
      have c3b := hM5.c3
      rw [HN.out] at c3b
      have ctp := hM5.ct (p := p) HPL.out
      have ftp := hM5.ft p
      have hx5 := (Keep.setCell (S := F) w3 (.int .i64 2) (a := ⟨L.gk, p, none⟩) f.2.2.1).blk hx1 hbF
      have hK5 := ((hK3.trans hK4).mono (T := F) (by simp)).trans (Keep.setCell w3 (.int .i64 2) (a := ⟨L.gk, p, none⟩) f.2.2.1)
      go_wp2_with fail
      generalize w3.setCell ⟨L.gk, p, none⟩ (.int .i64 2) = w5 at *
      have hM6 := hM5.keep0 (Keep.alloc [] w5 (.cells (madeCells #[.bool false] 16) 4))
      have c3d := hM6.c3
      rw [HN.out] at c3d
      have ctd := hM6.ct (p := p) HPL.out
      have ftd := hM6.ft p
      have hBR0 := BRow.made w5 4 16
      have hq5 : bx < w5.heap.size := lt_of_block hx5
      have hw5 : w.heap.size ≤ w5.heap.size := hK5.size
      have hqF : w5.heap.size ∉ F := fun e => by have := hM5.lt _ e; omega
      have hM7 := (hM6.gain (p := p) (c := 1) (q := w5.heap.size) (xs := offs 16) HPL.out hBR0 hqF).keep0 (Keep.drew [] _)
      rw [offs_length] at hM7
      have hK7 := ((hK5.trans ((Keep.alloc [] w5 (.cells (madeCells #[.bool false] 16) 4)).mono (by simp))).trans (Keep.setCell (S := F) _ (.slice (some ⟨w5.heap.size, 0, none⟩) 16 16) (a := ⟨L.gt, p, none⟩) f.2.2.2.2)).trans (Keep.drew F _)
      have hx7 := (Keep.drew F _).blk ((Keep.setCell (S := F) _ (.slice (some ⟨w5.heap.size, 0, none⟩) 16 16) (a := ⟨L.gt, p, none⟩) f.2.2.2.2).blk ((Keep.alloc F w5 (.cells (madeCells #[.bool false] 16) 4)).blk hx5 hbF) hbF) hbF
      go_region
      generalize ((w5.alloc (.cells (madeCells #[.bool false] 16) 4)).setCell ⟨L.gt, p, none⟩ (.slice (some ⟨w5.heap.size, 0, none⟩) 16 16)).drew = w8 at *
      obtain ⟨q, hq⟩ : ∃ q, w5.heap.size = q := ⟨_, rfl⟩
      rw [hq] at hM7 hqF hq5 hw5
      clear hM6 c3d ctd ftd hM5 c3b ctp ftp hM4 c1 c3 ckp fkp hBR0 hBR hK5 hx5 hq
      have hkat := kat_set_same kd p (.small 1 (offs 16)) HPL.out
      have c3e := hM7.c3
      rw [List.length_set, HN.out] at c3e
      have c3f : w8.cell? ⟨mb, 3, none⟩ = some (.slice (some ⟨L.gt, 0, none⟩) j j) := c3e
      have cte : w8.cell? ⟨L.gt, p, none⟩ = some (.slice (some ⟨q, 0, none⟩) 16 16) := by
        have := hM7.ct (p := p) (by rw [List.length_set]; exact HPL.out)
        rw [hkat] at this
        have e : (L.more p q).T p = q := if_pos rfl
        have e2 : (PK.small 1 (offs 16)).slot ((L.more p q).T p) = .slice (some ⟨q, 0, none⟩) 16 16 := by rw [e]; show Value.slice _ (offs 16).length (offs 16).length = _; rw [offs_length]
        rw [e2] at this
        exact this
      have hBRe : BRow w8 4 q (offs 16) := by
        have := hM7.page p 1 (offs 16) hkat
        have e : (L.more p q).T p = q := if_pos rfl
        rw [e] at this; exact this
      have cxe := hBRe.cell (i := 0) (by rw [offs_length]; omega)
      have fxe := hBRe.free 0
      have HNX := (show Hid (nextR (offs 16) (0 : Int).toNat false = 0) from nextR_is _ _ _ 0 (by omega) (by rw [offs_length]; omega) (offs_get _ _) (fun t a b => by omega))
      have hS9 := hM7.inner (i := 0) (b := true) hkat
      rw [List.set_set, show (L.more p q).T p = q from if_pos rfl] at hS9
      have HS9 := (show Hid (RpAt (w8.setCell ⟨q, 0, none⟩ (.bool true)) mb (L.more p q) (q :: F) ws ((kindL kd).set p 2) (bigL kd) (kd.set p (.small 1 ((offs 16).set 0 true)))) from hS9)
      have hbq : bx ∉ q :: F := fun e => by
        rcases List.mem_cons.1 e with e | e
        · omega
        · exact hbF e
      have hK9 := (hK7.mono (T := q :: F) (fun _ e => List.mem_cons_of_mem _ e)).trans (Keep.setCell w8 (.bool true) (a := ⟨q, 0, none⟩) (by simp))
      have hx9 := (Keep.setCell (S := q :: F) w8 (.bool true) (a := ⟨q, 0, none⟩) (by simp)).blk hx7 hbq
      clear hM7 hS9 c3e
      go_wp2_with (first | (go_at_call 43; refine (rnext_any q 16 16 0 false (offs 16) w8 hBRe (offs_length _) (by omega) (by omega)).mono ?_; rw [HNX.out]; rintro e w' ⟨rfl, rfl⟩))
      generalize w8.setCell ⟨q, 0, none⟩ (.bool true) = w10 at *
      refine (rfill_any mb y 4 (L.more p q) (q :: F) ws _ _ _ w10 HS9.out (by rw [List.length_set]; exact HLE.out) (by rw [List.length_set, HN.out]; exact hn2)).mono ?_
      rintro e w11 ⟨rfl, hR11, hK11⟩
      have hK12 := hK9.trans (hK11.mono (fun k e => by simp at e; subst e; exact List.mem_cons_of_mem _ f.2.1))
      have hx11 := hK11.blk hx9 (by simp; intro e; exact hbF (e ▸ f.2.1))
      have f0 : w11.frozen? ⟨bx, 0, none⟩ = false := by simp [World.frozen?, hx11]
      have f1 : w11.frozen? ⟨bx, 1, none⟩ = false := by simp [World.frozen?, hx11]
      have g0 : w11.cell? ⟨bx, 0, none⟩ = some (.int .i64 0) := by simp [World.cell?, hx11]
      have g1 : w11.cell? ⟨bx, 1, none⟩ = some (.int .i64 0) := by simp [World.cell?, hx11]
      have HKZ := (show Hid (∀ a b, Keep F w ((w11.setCell ⟨bx, 0, none⟩ a).setCell ⟨bx, 1, none⟩ b)) from fun a b => (Keep.two hK12 (by omega)).drop (fun k e hlt => by
        rcases List.mem_cons.1 e with e | e
        · omega
        · exact e))
      have HRZ := (show Hid (∀ u v, RpAt ((w11.setCell ⟨bx, 0, none⟩ u).setCell ⟨bx, 1, none⟩ v) mb (L.more p q) (q :: F) (fill0 ws y 4) ((kindL kd).set p 2) (bigL kd) (kd.set p (.small 1 ((offs 16).set 0 true)))) from fun u v => hR11.keep (S := [bx]) ((Keep.setCell w11 u (a := ⟨bx, 0, none⟩) (by simp)).trans (Keep.setCell _ v (a := ⟨bx, 1, none⟩) (by simp))) (fun k hq e => by simp at e; subst e; exact hbq hq))
      have HKS := (show Hid (kindL (kd.set p (.small 1 ((offs 16).set 0 true))) = (kindL kd).set p 2 ∧ bigL (kd.set p (.small 1 ((offs 16).set 0 true))) = bigL kd) from ⟨by simp [kindL, List.map_set, PK.kind], by
        refine eq_of_getD (by simp [bigL]) (fun t => ?_)
        rw [bigL_get, bigL_get, kat_set _ _ _ _ HPL.out]
        split
        · rename_i e; subst e; rw [HFP.out]; rfl
        · rfl⟩)
      have HGR := (show Hid (Grows w F (q :: F)) from fun k e => by
        rcases List.mem_cons.1 e with e | e
        · right; omega
        · exact .inl e)
      clear hR11 hK11 hK12 HS9 hx9 hK9
      go_wp2
      refine bodyPost_ret (results_cell_row rfl _ _ bx 46 #[.int .i64 y, .int .i64 0] (0, 0) _ rfl (two_set hx11) Try.underlying46 rfl (by kernel_rfl)) rfl ?_
      refine ⟨L.more p q, q :: F, rfl, ?_, HKZ.out _ _, HGR.out⟩
      rw [HKS.out.1, HKS.out.2]
      exact HRZ.out _ _

set_option maxRecDepth 100000 in
set_option maxHeartbeats 8000000 in
theorem ralloc_new2 (mb p : Nat) (n : Int) (L : RLay) (F : List Nat) (ws : List Int) (kd : List PK) (w : World) (h : RpAt w mb L F ws (kindL kd) (bigL kd) kd) (hw : WF kd) (hcl : classI n = 2) (hp : nextR (hasL 2 kd) 0 true = -1) (hr : runR (takenL kd) 0 1 = p) :
    Calls Try.prog 19 #[.pointer (some ⟨mb, 0, none⟩), .int .i64 n] w fun e w' => ∃ L' F', e = .returned (.agg #[.int .i64 ((64 * p : Nat) : Int), .int .i64 0]) ∧ RpAt w' mb L' F' (fill0 ws (64 * p) 8) (kindL (kd.set p (.small 2 ((offs 8).set 0 true)))) (bigL (kd.set p (.small 2 ((offs 8).set 0 true)))) (kd.set p (.small 2 ((offs 8).set 0 true))) ∧ Keep F w w' ∧ Grows w F F' := by
  have hc : (2 : Nat) < 5 := by omega
  have HPN := (show Hid (∀ t, (kat kd t).has 2 = false) from none_has hp)
  have HR := (show Hid (runR (takenL kd) 0 1 = p) from hr)
  have hbl : blockI n = ((8 : Nat) : Int) := by rw [block_class n 2 hcl]; rfl
  have HB := (show Hid (blockI n = 8) from hbl)
  have HC := (show Hid (classI n = 2) from hcl)
  have hcr := run_clear (by omega) hr
  obtain ⟨hpl, hfree⟩ := clear_free hcr
  have HFP := (show Hid (kat kd p = .free) from hfree p (by omega) (by omega))
  have HPL := (show Hid (p < kd.length) from by show _ < _; omega)
  have hp0 : decide ((p : Int) < 0) = false := by rw [decide_eq_false_iff_not]; omega
  have f := h.f
  have hFlt := h.lt
  have HM := (show Hid (RpAt w mb L F ws (kindL kd) (bigL kd) kd) from h)
  have HW := (show Hid (WF kd) from hw)
  have hx := heap_alloc_new w (.cells #[.int .i64 0, .int .i64 0] 46)
  have hK := Keep.alloc [] w (.cells #[.int .i64 0, .int .i64 0] 46)
  obtain ⟨bx, hbx⟩ : ∃ bx, w.heap.size = bx := ⟨_, rfl⟩
  rw [hbx] at hx
  obtain ⟨nn, hnn⟩ : ∃ nn, kd.length = nn := ⟨_, rfl⟩
  have HN := (show Hid (kd.length = nn) from hnn)
  have hn2 : nn ≤ 256 := by rw [← hnn]; exact hw.len2
  have hpnn : p < nn := by omega
  have hbF : bx ∉ F := fun e => by have := hFlt _ e; omega
  obtain ⟨y, hy⟩ : ∃ y : Nat, 64 * p = y := ⟨_, rfl⟩
  have hyi : (p : Int) * 64 = y := by omega
  have hyb : y ≤ 20000 := by omega
  have HLE := (show Hid (y + 8 ≤ 64 * kd.length) from by show _ ≤ _; omega)
  rw [hy]
  have hmk : ∀ w, (Instr.makeSlice 71 (.int .i64 8) (.int .i64 8)).run Try.prog w = .ok (.slice (some ⟨w.heap.size, 0, none⟩) 8 8) (w.alloc (.cells (madeCells #[.bool false] 8) 4)) :=
    fun w => run_make_row' (P := Try.prog) 71 4 (.bool false) 1 Try.underlying71 Try.infoBool rfl .i64 .i64 8 (by omega) (by omega) w
  clear hcr hfree
  have HLX := (show Hid (∀ t ys, kat kd t = .small 2 ys → ys.length ≤ 32) from fun t ys e => by
    obtain ⟨_, hl, _⟩ := hw.small t 2 ys e
    have := (sz_facts 2 hc).2.2.2.2.2.1
    show ys.length ≤ 32
    omega)
  clear h hw hcl hp hr hbl hnn hy
  go_enter Try.func19, Try.ntmps19
  go_wp2_with fail
  refine (rblock_any _ _).mono ?_
  rw [HB.out]
  rintro e w1 ⟨rfl, hK1⟩
  go_wp2_with fail
  refine (rclass_any _ _).mono ?_
  rw [HC.out]
  rintro e w2 ⟨rfl, hK2⟩
  have hK3 := (hK.trans hK1).trans hK2
  have hM2 := HM.out.keep0 hK3
  have hx2 := (hK1.trans hK2).blk hx (by simp)
  have c1 := hM2.c1
  have c3 := hM2.c3
  rw [HN.out] at c1 c3
  have HM2 := (show Hid (RpAt w2 mb L F ws (kindL kd) (bigL kd) kd) from hM2)
  clear hM2 hK1 hK2 hK hx
  go_wp2_with fail
  go_loop [10] (fun v => ∃ j : Nat, v = .int .i64 j ∧ j ≤ nn) (fun v => nn - (intOf v).toNat)
  case atStart => exact ⟨0, rfl, by omega⟩
  case round =>
    obtain ⟨j, rfl, hj⟩ := hrel
    by_cases hlt : j < nn
    · have ck := HM2.out.ck (p := j) (by rw [HN.out]; omega)
      rw [kindL_get] at ck
      have hjn : decide ((j : Int) < (nn : Int)) = true := by rw [decide_eq_true_iff]; omega
      have HF := HPN.out j
      rcases kind_look (kd := kd) 2 j hc with ⟨hk1, _⟩ | ⟨ys, hk1, hh⟩
      · generalize (kat kd j).kind = kv at *
        have hkd : decide (kv = 2 + 1) = false := by rw [decide_eq_false_iff_not]; exact hk1
        have hkd2 : decide (kv = 3) = false := by rw [decide_eq_false_iff_not]; exact hk1
        have hkd3 : kv ≠ 3 := hk1
        clear HF
        go_wp2_with fail
        go_round
        case rel => exact ⟨j + 1, by go_num, by omega⟩
        case measure => simp [intOf]; omega
      · rw [hk1] at ck
        have hck : w2.cell? ⟨L.gk, j, none⟩ = some (.int .i64 3) := ck
        have ct : w2.cell? ⟨L.gt, j, none⟩ = some (.slice (some ⟨L.T j, 0, none⟩) ys.length ys.length) := by
          have := HM2.out.ct (p := j) (by rw [HN.out]; omega)
          rw [hk1] at this; exact this
        have hBR := HM2.out.page j 2 ys hk1
        have HYA := (show Hid (nextR ys (0 : Int).toNat false = -1) from by
          have ha := bool_no HF hh
          unfold allB at ha
          rcases nextR_spec ys false _ 0 rfl with ⟨e, _⟩ | ⟨l, e, _⟩
          · exact e
          · rw [e] at ha; have := of_decide_eq_true ha; omega)
        have hyl := HLX.out j ys hk1
        clear HF hh ck hk1
        go_wp2_with (first | (go_at_call 43; refine (rnext_any (L.T j) ys.length ys.length 0 false ys w2 hBR rfl (by omega) (by omega)).mono ?_; rw [HYA.out]; rintro e w' ⟨rfl, rfl⟩))
        go_round
        case rel => exact ⟨j + 1, by go_num, by omega⟩
        case measure => simp [intOf]; omega
    · obtain rfl : j = nn := by omega
      go_wp2_with fail
      refine (rpages_ok mb L F ws (bigL kd) kd w2 HM2.out HW.out.len1 HW.out.len2).mono ?_
      rw [HN.out]
      rintro e w3 ⟨g, rfl, hBR, hK4, hg⟩
      go_wp2_with fail
      refine (run_dn g j j 1 (takenL kd) w3 hBR (by rw [takenL_length, HN.out]) (by omega) (by omega)).mono ?_
      rw [HR.out]
      rintro e w' ⟨rfl, rfl⟩
      have hx1 := hK4.blk hx2 (by simp)
      have hM4 := HM2.out.keep0 hK4
      have c1 := hM4.c1
      have c3 := hM4.c3
      rw [HN.out] at c1 c3
      have ckp := hM4.ck (p := p) HPL.out
      have fkp := hM4.rowK.free p
      have hM5 := hM4.setK p 3
      have c3b := hM5.c3
      rw [HN.out] at c3b
      have ctp := hM5.ct (p := p) HPL.out
      have ftp := hM5.ft p
      have hx5 := (Keep.setCell (S := F) w3 (.int .i64 3) (a := ⟨L.gk, p, none⟩) f.2.2.1).blk hx1 hbF
      have hK5 := ((hK3.trans hK4).mono (T := F) (by simp)).trans (Keep.setCell w3 (.int .i64 3) (a := ⟨L.gk, p, none⟩) f.2.2.1)
      go_wp2_with fail
      generalize w3.setCell ⟨L.gk, p, none⟩ (.int .i64 3) = w5 at *
      have hM6 := hM5.keep0 (Keep.alloc [] w5 (.cells (madeCells #[.bool false] 8) 4))
      have c3d := hM6.c3
      rw [HN.out] at c3d
      have ctd := hM6.ct (p := p) HPL.out
      have ftd := hM6.ft p
      have hBR0 := BRow.made w5 4 8
      have hq5 : bx < w5.heap.size := lt_of_block hx5
      have hw5 : w.heap.size ≤ w5.heap.size := hK5.size
      have hqF : w5.heap.size ∉ F := fun e => by have := hM5.lt _ e; omega
      have hM7 := (hM6.gain (p := p) (c := 2) (q := w5.heap.size) (xs := offs 8) HPL.out hBR0 hqF).keep0 (Keep.drew [] _)
      rw [offs_length] at hM7
      have hK7 := ((hK5.trans ((Keep.alloc [] w5 (.cells (madeCells #[.bool false] 8) 4)).mono (by simp))).trans (Keep.setCell (S := F) _ (.slice (some ⟨w5.heap.size, 0, none⟩) 8 8) (a := ⟨L.gt, p, none⟩) f.2.2.2.2)).trans (Keep.drew F _)
      have hx7 := (Keep.drew F _).blk ((Keep.setCell (S := F) _ (.slice (some ⟨w5.heap.size, 0, none⟩) 8 8) (a := ⟨L.gt, p, none⟩) f.2.2.2.2).blk ((Keep.alloc F w5 (.cells (madeCells #[.bool false] 8) 4)).blk hx5 hbF) hbF) hbF
      go_region
      generalize ((w5.alloc (.cells (madeCells #[.bool false] 8) 4)).setCell ⟨L.gt, p, none⟩ (.slice (some ⟨w5.heap.size, 0, none⟩) 8 8)).drew = w8 at *
      obtain ⟨q, hq⟩ : ∃ q, w5.heap.size = q := ⟨_, rfl⟩
      rw [hq] at hM7 hqF hq5 hw5
      clear hM6 c3d ctd ftd hM5 c3b ctp ftp hM4 c1 c3 ckp fkp hBR0 hBR hK5 hx5 hq
      have hkat := kat_set_same kd p (.small 2 (offs 8)) HPL.out
      have c3e := hM7.c3
      rw [List.length_set, HN.out] at c3e
      have c3f : w8.cell? ⟨mb, 3, none⟩ = some (.slice (some ⟨L.gt, 0, none⟩) j j) := c3e
      have cte : w8.cell? ⟨L.gt, p, none⟩ = some (.slice (some ⟨q, 0, none⟩) 8 8) := by
        have := hM7.ct (p := p) (by rw [List.length_set]; exact HPL.out)
        rw [hkat] at this
        have e : (L.more p q).T p = q := if_pos rfl
        have e2 : (PK.small 2 (offs 8)).slot ((L.more p q).T p) = .slice (some ⟨q, 0, none⟩) 8 8 := by rw [e]; show Value.slice _ (offs 8).length (offs 8).length = _; rw [offs_length]
        rw [e2] at this
        exact this
      have hBRe : BRow w8 4 q (offs 8) := by
        have := hM7.page p 2 (offs 8) hkat
        have e : (L.more p q).T p = q := if_pos rfl
        rw [e] at this; exact this
      have cxe := hBRe.cell (i := 0) (by rw [offs_length]; omega)
      have fxe := hBRe.free 0
      have HNX := (show Hid (nextR (offs 8) (0 : Int).toNat false = 0) from nextR_is _ _ _ 0 (by omega) (by rw [offs_length]; omega) (offs_get _ _) (fun t a b => by omega))
      have hS9 := hM7.inner (i := 0) (b := true) hkat
      rw [List.set_set, show (L.more p q).T p = q from if_pos rfl] at hS9
      have HS9 := (show Hid (RpAt (w8.setCell ⟨q, 0, none⟩ (.bool true)) mb (L.more p q) (q :: F) ws ((kindL kd).set p 3) (bigL kd) (kd.set p (.small 2 ((offs 8).set 0 true)))) from hS9)
      have hbq : bx ∉ q :: F := fun e => by
        rcases List.mem_cons.1 e with e | e
        · omega
        · exact hbF e
      have hK9 := (hK7.mono (T := q :: F) (fun _ e => List.mem_cons_of_mem _ e)).trans (Keep.setCell w8 (.bool true) (a := ⟨q, 0, none⟩) (by simp))
      have hx9 := (Keep.setCell (S := q :: F) w8 (.bool true) (a := ⟨q, 0, none⟩) (by simp)).blk hx7 hbq
      clear hM7 hS9 c3e
      go_wp2_with (first | (go_at_call 43; refine (rnext_any q 8 8 0 false (offs 8) w8 hBRe (offs_length _) (by omega) (by omega)).mono ?_; rw [HNX.out]; rintro e w' ⟨rfl, rfl⟩))
      generalize w8.setCell ⟨q, 0, none⟩ (.bool true) = w10 at *
      refine (rfill_any mb y 8 (L.more p q) (q :: F) ws _ _ _ w10 HS9.out (by rw [List.length_set]; exact HLE.out) (by rw [List.length_set, HN.out]; exact hn2)).mono ?_
      rintro e w11 ⟨rfl, hR11, hK11⟩
      have hK12 := hK9.trans (hK11.mono (fun k e => by simp at e; subst e; exact List.mem_cons_of_mem _ f.2.1))
      have hx11 := hK11.blk hx9 (by simp; intro e; exact hbF (e ▸ f.2.1))
      have f0 : w11.frozen? ⟨bx, 0, none⟩ = false := by simp [World.frozen?, hx11]
      have f1 : w11.frozen? ⟨bx, 1, none⟩ = false := by simp [World.frozen?, hx11]
      have g0 : w11.cell? ⟨bx, 0, none⟩ = some (.int .i64 0) := by simp [World.cell?, hx11]
      have g1 : w11.cell? ⟨bx, 1, none⟩ = some (.int .i64 0) := by simp [World.cell?, hx11]
      have HKZ := (show Hid (∀ a b, Keep F w ((w11.setCell ⟨bx, 0, none⟩ a).setCell ⟨bx, 1, none⟩ b)) from fun a b => (Keep.two hK12 (by omega)).drop (fun k e hlt => by
        rcases List.mem_cons.1 e with e | e
        · omega
        · exact e))
      have HRZ := (show Hid (∀ u v, RpAt ((w11.setCell ⟨bx, 0, none⟩ u).setCell ⟨bx, 1, none⟩ v) mb (L.more p q) (q :: F) (fill0 ws y 8) ((kindL kd).set p 3) (bigL kd) (kd.set p (.small 2 ((offs 8).set 0 true)))) from fun u v => hR11.keep (S := [bx]) ((Keep.setCell w11 u (a := ⟨bx, 0, none⟩) (by simp)).trans (Keep.setCell _ v (a := ⟨bx, 1, none⟩) (by simp))) (fun k hq e => by simp at e; subst e; exact hbq hq))
      have HKS := (show Hid (kindL (kd.set p (.small 2 ((offs 8).set 0 true))) = (kindL kd).set p 3 ∧ bigL (kd.set p (.small 2 ((offs 8).set 0 true))) = bigL kd) from ⟨by simp [kindL, List.map_set, PK.kind], by
        refine eq_of_getD (by simp [bigL]) (fun t => ?_)
        rw [bigL_get, bigL_get, kat_set _ _ _ _ HPL.out]
        split
        · rename_i e; subst e; rw [HFP.out]; rfl
        · rfl⟩)
      have HGR := (show Hid (Grows w F (q :: F)) from fun k e => by
        rcases List.mem_cons.1 e with e | e
        · right; omega
        · exact .inl e)
      clear hR11 hK11 hK12 HS9 hx9 hK9
      go_wp2
      refine bodyPost_ret (results_cell_row rfl _ _ bx 46 #[.int .i64 y, .int .i64 0] (0, 0) _ rfl (two_set hx11) Try.underlying46 rfl (by kernel_rfl)) rfl ?_
      refine ⟨L.more p q, q :: F, rfl, ?_, HKZ.out _ _, HGR.out⟩
      rw [HKS.out.1, HKS.out.2]
      exact HRZ.out _ _

set_option maxRecDepth 100000 in
set_option maxHeartbeats 8000000 in
theorem ralloc_new3 (mb p : Nat) (n : Int) (L : RLay) (F : List Nat) (ws : List Int) (kd : List PK) (w : World) (h : RpAt w mb L F ws (kindL kd) (bigL kd) kd) (hw : WF kd) (hcl : classI n = 3) (hp : nextR (hasL 3 kd) 0 true = -1) (hr : runR (takenL kd) 0 1 = p) :
    Calls Try.prog 19 #[.pointer (some ⟨mb, 0, none⟩), .int .i64 n] w fun e w' => ∃ L' F', e = .returned (.agg #[.int .i64 ((64 * p : Nat) : Int), .int .i64 0]) ∧ RpAt w' mb L' F' (fill0 ws (64 * p) 16) (kindL (kd.set p (.small 3 ((offs 4).set 0 true)))) (bigL (kd.set p (.small 3 ((offs 4).set 0 true)))) (kd.set p (.small 3 ((offs 4).set 0 true))) ∧ Keep F w w' ∧ Grows w F F' := by
  have hc : (3 : Nat) < 5 := by omega
  have HPN := (show Hid (∀ t, (kat kd t).has 3 = false) from none_has hp)
  have HR := (show Hid (runR (takenL kd) 0 1 = p) from hr)
  have hbl : blockI n = ((16 : Nat) : Int) := by rw [block_class n 3 hcl]; rfl
  have HB := (show Hid (blockI n = 16) from hbl)
  have HC := (show Hid (classI n = 3) from hcl)
  have hcr := run_clear (by omega) hr
  obtain ⟨hpl, hfree⟩ := clear_free hcr
  have HFP := (show Hid (kat kd p = .free) from hfree p (by omega) (by omega))
  have HPL := (show Hid (p < kd.length) from by show _ < _; omega)
  have hp0 : decide ((p : Int) < 0) = false := by rw [decide_eq_false_iff_not]; omega
  have f := h.f
  have hFlt := h.lt
  have HM := (show Hid (RpAt w mb L F ws (kindL kd) (bigL kd) kd) from h)
  have HW := (show Hid (WF kd) from hw)
  have hx := heap_alloc_new w (.cells #[.int .i64 0, .int .i64 0] 46)
  have hK := Keep.alloc [] w (.cells #[.int .i64 0, .int .i64 0] 46)
  obtain ⟨bx, hbx⟩ : ∃ bx, w.heap.size = bx := ⟨_, rfl⟩
  rw [hbx] at hx
  obtain ⟨nn, hnn⟩ : ∃ nn, kd.length = nn := ⟨_, rfl⟩
  have HN := (show Hid (kd.length = nn) from hnn)
  have hn2 : nn ≤ 256 := by rw [← hnn]; exact hw.len2
  have hpnn : p < nn := by omega
  have hbF : bx ∉ F := fun e => by have := hFlt _ e; omega
  obtain ⟨y, hy⟩ : ∃ y : Nat, 64 * p = y := ⟨_, rfl⟩
  have hyi : (p : Int) * 64 = y := by omega
  have hyb : y ≤ 20000 := by omega
  have HLE := (show Hid (y + 16 ≤ 64 * kd.length) from by show _ ≤ _; omega)
  rw [hy]
  have hmk : ∀ w, (Instr.makeSlice 71 (.int .i64 4) (.int .i64 4)).run Try.prog w = .ok (.slice (some ⟨w.heap.size, 0, none⟩) 4 4) (w.alloc (.cells (madeCells #[.bool false] 4) 4)) :=
    fun w => run_make_row' (P := Try.prog) 71 4 (.bool false) 1 Try.underlying71 Try.infoBool rfl .i64 .i64 4 (by omega) (by omega) w
  clear hcr hfree
  have HLX := (show Hid (∀ t ys, kat kd t = .small 3 ys → ys.length ≤ 32) from fun t ys e => by
    obtain ⟨_, hl, _⟩ := hw.small t 3 ys e
    have := (sz_facts 3 hc).2.2.2.2.2.1
    show ys.length ≤ 32
    omega)
  clear h hw hcl hp hr hbl hnn hy
  go_enter Try.func19, Try.ntmps19
  go_wp2_with fail
  refine (rblock_any _ _).mono ?_
  rw [HB.out]
  rintro e w1 ⟨rfl, hK1⟩
  go_wp2_with fail
  refine (rclass_any _ _).mono ?_
  rw [HC.out]
  rintro e w2 ⟨rfl, hK2⟩
  have hK3 := (hK.trans hK1).trans hK2
  have hM2 := HM.out.keep0 hK3
  have hx2 := (hK1.trans hK2).blk hx (by simp)
  have c1 := hM2.c1
  have c3 := hM2.c3
  rw [HN.out] at c1 c3
  have HM2 := (show Hid (RpAt w2 mb L F ws (kindL kd) (bigL kd) kd) from hM2)
  clear hM2 hK1 hK2 hK hx
  go_wp2_with fail
  go_loop [10] (fun v => ∃ j : Nat, v = .int .i64 j ∧ j ≤ nn) (fun v => nn - (intOf v).toNat)
  case atStart => exact ⟨0, rfl, by omega⟩
  case round =>
    obtain ⟨j, rfl, hj⟩ := hrel
    by_cases hlt : j < nn
    · have ck := HM2.out.ck (p := j) (by rw [HN.out]; omega)
      rw [kindL_get] at ck
      have hjn : decide ((j : Int) < (nn : Int)) = true := by rw [decide_eq_true_iff]; omega
      have HF := HPN.out j
      rcases kind_look (kd := kd) 3 j hc with ⟨hk1, _⟩ | ⟨ys, hk1, hh⟩
      · generalize (kat kd j).kind = kv at *
        have hkd : decide (kv = 3 + 1) = false := by rw [decide_eq_false_iff_not]; exact hk1
        have hkd2 : decide (kv = 4) = false := by rw [decide_eq_false_iff_not]; exact hk1
        have hkd3 : kv ≠ 4 := hk1
        clear HF
        go_wp2_with fail
        go_round
        case rel => exact ⟨j + 1, by go_num, by omega⟩
        case measure => simp [intOf]; omega
      · rw [hk1] at ck
        have hck : w2.cell? ⟨L.gk, j, none⟩ = some (.int .i64 4) := ck
        have ct : w2.cell? ⟨L.gt, j, none⟩ = some (.slice (some ⟨L.T j, 0, none⟩) ys.length ys.length) := by
          have := HM2.out.ct (p := j) (by rw [HN.out]; omega)
          rw [hk1] at this; exact this
        have hBR := HM2.out.page j 3 ys hk1
        have HYA := (show Hid (nextR ys (0 : Int).toNat false = -1) from by
          have ha := bool_no HF hh
          unfold allB at ha
          rcases nextR_spec ys false _ 0 rfl with ⟨e, _⟩ | ⟨l, e, _⟩
          · exact e
          · rw [e] at ha; have := of_decide_eq_true ha; omega)
        have hyl := HLX.out j ys hk1
        clear HF hh ck hk1
        go_wp2_with (first | (go_at_call 43; refine (rnext_any (L.T j) ys.length ys.length 0 false ys w2 hBR rfl (by omega) (by omega)).mono ?_; rw [HYA.out]; rintro e w' ⟨rfl, rfl⟩))
        go_round
        case rel => exact ⟨j + 1, by go_num, by omega⟩
        case measure => simp [intOf]; omega
    · obtain rfl : j = nn := by omega
      go_wp2_with fail
      refine (rpages_ok mb L F ws (bigL kd) kd w2 HM2.out HW.out.len1 HW.out.len2).mono ?_
      rw [HN.out]
      rintro e w3 ⟨g, rfl, hBR, hK4, hg⟩
      go_wp2_with fail
      refine (run_dn g j j 1 (takenL kd) w3 hBR (by rw [takenL_length, HN.out]) (by omega) (by omega)).mono ?_
      rw [HR.out]
      rintro e w' ⟨rfl, rfl⟩
      have hx1 := hK4.blk hx2 (by simp)
      have hM4 := HM2.out.keep0 hK4
      have c1 := hM4.c1
      have c3 := hM4.c3
      rw [HN.out] at c1 c3
      have ckp := hM4.ck (p := p) HPL.out
      have fkp := hM4.rowK.free p
      have hM5 := hM4.setK p 4
      have c3b := hM5.c3
      rw [HN.out] at c3b
      have ctp := hM5.ct (p := p) HPL.out
      have ftp := hM5.ft p
      have hx5 := (Keep.setCell (S := F) w3 (.int .i64 4) (a := ⟨L.gk, p, none⟩) f.2.2.1).blk hx1 hbF
      have hK5 := ((hK3.trans hK4).mono (T := F) (by simp)).trans (Keep.setCell w3 (.int .i64 4) (a := ⟨L.gk, p, none⟩) f.2.2.1)
      go_wp2_with fail
      generalize w3.setCell ⟨L.gk, p, none⟩ (.int .i64 4) = w5 at *
      have hM6 := hM5.keep0 (Keep.alloc [] w5 (.cells (madeCells #[.bool false] 4) 4))
      have c3d := hM6.c3
      rw [HN.out] at c3d
      have ctd := hM6.ct (p := p) HPL.out
      have ftd := hM6.ft p
      have hBR0 := BRow.made w5 4 4
      have hq5 : bx < w5.heap.size := lt_of_block hx5
      have hw5 : w.heap.size ≤ w5.heap.size := hK5.size
      have hqF : w5.heap.size ∉ F := fun e => by have := hM5.lt _ e; omega
      have hM7 := (hM6.gain (p := p) (c := 3) (q := w5.heap.size) (xs := offs 4) HPL.out hBR0 hqF).keep0 (Keep.drew [] _)
      rw [offs_length] at hM7
      have hK7 := ((hK5.trans ((Keep.alloc [] w5 (.cells (madeCells #[.bool false] 4) 4)).mono (by simp))).trans (Keep.setCell (S := F) _ (.slice (some ⟨w5.heap.size, 0, none⟩) 4 4) (a := ⟨L.gt, p, none⟩) f.2.2.2.2)).trans (Keep.drew F _)
      have hx7 := (Keep.drew F _).blk ((Keep.setCell (S := F) _ (.slice (some ⟨w5.heap.size, 0, none⟩) 4 4) (a := ⟨L.gt, p, none⟩) f.2.2.2.2).blk ((Keep.alloc F w5 (.cells (madeCells #[.bool false] 4) 4)).blk hx5 hbF) hbF) hbF
      go_region
      generalize ((w5.alloc (.cells (madeCells #[.bool false] 4) 4)).setCell ⟨L.gt, p, none⟩ (.slice (some ⟨w5.heap.size, 0, none⟩) 4 4)).drew = w8 at *
      obtain ⟨q, hq⟩ : ∃ q, w5.heap.size = q := ⟨_, rfl⟩
      rw [hq] at hM7 hqF hq5 hw5
      clear hM6 c3d ctd ftd hM5 c3b ctp ftp hM4 c1 c3 ckp fkp hBR0 hBR hK5 hx5 hq
      have hkat := kat_set_same kd p (.small 3 (offs 4)) HPL.out
      have c3e := hM7.c3
      rw [List.length_set, HN.out] at c3e
      have c3f : w8.cell? ⟨mb, 3, none⟩ = some (.slice (some ⟨L.gt, 0, none⟩) j j) := c3e
      have cte : w8.cell? ⟨L.gt, p, none⟩ = some (.slice (some ⟨q, 0, none⟩) 4 4) := by
        have := hM7.ct (p := p) (by rw [List.length_set]; exact HPL.out)
        rw [hkat] at this
        have e : (L.more p q).T p = q := if_pos rfl
        have e2 : (PK.small 3 (offs 4)).slot ((L.more p q).T p) = .slice (some ⟨q, 0, none⟩) 4 4 := by rw [e]; show Value.slice _ (offs 4).length (offs 4).length = _; rw [offs_length]
        rw [e2] at this
        exact this
      have hBRe : BRow w8 4 q (offs 4) := by
        have := hM7.page p 3 (offs 4) hkat
        have e : (L.more p q).T p = q := if_pos rfl
        rw [e] at this; exact this
      have cxe := hBRe.cell (i := 0) (by rw [offs_length]; omega)
      have fxe := hBRe.free 0
      have HNX := (show Hid (nextR (offs 4) (0 : Int).toNat false = 0) from nextR_is _ _ _ 0 (by omega) (by rw [offs_length]; omega) (offs_get _ _) (fun t a b => by omega))
      have hS9 := hM7.inner (i := 0) (b := true) hkat
      rw [List.set_set, show (L.more p q).T p = q from if_pos rfl] at hS9
      have HS9 := (show Hid (RpAt (w8.setCell ⟨q, 0, none⟩ (.bool true)) mb (L.more p q) (q :: F) ws ((kindL kd).set p 4) (bigL kd) (kd.set p (.small 3 ((offs 4).set 0 true)))) from hS9)
      have hbq : bx ∉ q :: F := fun e => by
        rcases List.mem_cons.1 e with e | e
        · omega
        · exact hbF e
      have hK9 := (hK7.mono (T := q :: F) (fun _ e => List.mem_cons_of_mem _ e)).trans (Keep.setCell w8 (.bool true) (a := ⟨q, 0, none⟩) (by simp))
      have hx9 := (Keep.setCell (S := q :: F) w8 (.bool true) (a := ⟨q, 0, none⟩) (by simp)).blk hx7 hbq
      clear hM7 hS9 c3e
      go_wp2_with (first | (go_at_call 43; refine (rnext_any q 4 4 0 false (offs 4) w8 hBRe (offs_length _) (by omega) (by omega)).mono ?_; rw [HNX.out]; rintro e w' ⟨rfl, rfl⟩))
      generalize w8.setCell ⟨q, 0, none⟩ (.bool true) = w10 at *
      refine (rfill_any mb y 16 (L.more p q) (q :: F) ws _ _ _ w10 HS9.out (by rw [List.length_set]; exact HLE.out) (by rw [List.length_set, HN.out]; exact hn2)).mono ?_
      rintro e w11 ⟨rfl, hR11, hK11⟩
      have hK12 := hK9.trans (hK11.mono (fun k e => by simp at e; subst e; exact List.mem_cons_of_mem _ f.2.1))
      have hx11 := hK11.blk hx9 (by simp; intro e; exact hbF (e ▸ f.2.1))
      have f0 : w11.frozen? ⟨bx, 0, none⟩ = false := by simp [World.frozen?, hx11]
      have f1 : w11.frozen? ⟨bx, 1, none⟩ = false := by simp [World.frozen?, hx11]
      have g0 : w11.cell? ⟨bx, 0, none⟩ = some (.int .i64 0) := by simp [World.cell?, hx11]
      have g1 : w11.cell? ⟨bx, 1, none⟩ = some (.int .i64 0) := by simp [World.cell?, hx11]
      have HKZ := (show Hid (∀ a b, Keep F w ((w11.setCell ⟨bx, 0, none⟩ a).setCell ⟨bx, 1, none⟩ b)) from fun a b => (Keep.two hK12 (by omega)).drop (fun k e hlt => by
        rcases List.mem_cons.1 e with e | e
        · omega
        · exact e))
      have HRZ := (show Hid (∀ u v, RpAt ((w11.setCell ⟨bx, 0, none⟩ u).setCell ⟨bx, 1, none⟩ v) mb (L.more p q) (q :: F) (fill0 ws y 16) ((kindL kd).set p 4) (bigL kd) (kd.set p (.small 3 ((offs 4).set 0 true)))) from fun u v => hR11.keep (S := [bx]) ((Keep.setCell w11 u (a := ⟨bx, 0, none⟩) (by simp)).trans (Keep.setCell _ v (a := ⟨bx, 1, none⟩) (by simp))) (fun k hq e => by simp at e; subst e; exact hbq hq))
      have HKS := (show Hid (kindL (kd.set p (.small 3 ((offs 4).set 0 true))) = (kindL kd).set p 4 ∧ bigL (kd.set p (.small 3 ((offs 4).set 0 true))) = bigL kd) from ⟨by simp [kindL, List.map_set, PK.kind], by
        refine eq_of_getD (by simp [bigL]) (fun t => ?_)
        rw [bigL_get, bigL_get, kat_set _ _ _ _ HPL.out]
        split
        · rename_i e; subst e; rw [HFP.out]; rfl
        · rfl⟩)
      have HGR := (show Hid (Grows w F (q :: F)) from fun k e => by
        rcases List.mem_cons.1 e with e | e
        · right; omega
        · exact .inl e)
      clear hR11 hK11 hK12 HS9 hx9 hK9
      go_wp2
      refine bodyPost_ret (results_cell_row rfl _ _ bx 46 #[.int .i64 y, .int .i64 0] (0, 0) _ rfl (two_set hx11) Try.underlying46 rfl (by kernel_rfl)) rfl ?_
      refine ⟨L.more p q, q :: F, rfl, ?_, HKZ.out _ _, HGR.out⟩
      rw [HKS.out.1, HKS.out.2]
      exact HRZ.out _ _

set_option maxRecDepth 100000 in
set_option maxHeartbeats 8000000 in
theorem ralloc_new4 (mb p : Nat) (n : Int) (L : RLay) (F : List Nat) (ws : List Int) (kd : List PK) (w : World) (h : RpAt w mb L F ws (kindL kd) (bigL kd) kd) (hw : WF kd) (hcl : classI n = 4) (hp : nextR (hasL 4 kd) 0 true = -1) (hr : runR (takenL kd) 0 1 = p) :
    Calls Try.prog 19 #[.pointer (some ⟨mb, 0, none⟩), .int .i64 n] w fun e w' => ∃ L' F', e = .returned (.agg #[.int .i64 ((64 * p : Nat) : Int), .int .i64 0]) ∧ RpAt w' mb L' F' (fill0 ws (64 * p) 32) (kindL (kd.set p (.small 4 ((offs 2).set 0 true)))) (bigL (kd.set p (.small 4 ((offs 2).set 0 true)))) (kd.set p (.small 4 ((offs 2).set 0 true))) ∧ Keep F w w' ∧ Grows w F F' := by
  have hc : (4 : Nat) < 5 := by omega
  have HPN := (show Hid (∀ t, (kat kd t).has 4 = false) from none_has hp)
  have HR := (show Hid (runR (takenL kd) 0 1 = p) from hr)
  have hbl : blockI n = ((32 : Nat) : Int) := by rw [block_class n 4 hcl]; rfl
  have HB := (show Hid (blockI n = 32) from hbl)
  have HC := (show Hid (classI n = 4) from hcl)
  have hcr := run_clear (by omega) hr
  obtain ⟨hpl, hfree⟩ := clear_free hcr
  have HFP := (show Hid (kat kd p = .free) from hfree p (by omega) (by omega))
  have HPL := (show Hid (p < kd.length) from by show _ < _; omega)
  have hp0 : decide ((p : Int) < 0) = false := by rw [decide_eq_false_iff_not]; omega
  have f := h.f
  have hFlt := h.lt
  have HM := (show Hid (RpAt w mb L F ws (kindL kd) (bigL kd) kd) from h)
  have HW := (show Hid (WF kd) from hw)
  have hx := heap_alloc_new w (.cells #[.int .i64 0, .int .i64 0] 46)
  have hK := Keep.alloc [] w (.cells #[.int .i64 0, .int .i64 0] 46)
  obtain ⟨bx, hbx⟩ : ∃ bx, w.heap.size = bx := ⟨_, rfl⟩
  rw [hbx] at hx
  obtain ⟨nn, hnn⟩ : ∃ nn, kd.length = nn := ⟨_, rfl⟩
  have HN := (show Hid (kd.length = nn) from hnn)
  have hn2 : nn ≤ 256 := by rw [← hnn]; exact hw.len2
  have hpnn : p < nn := by omega
  have hbF : bx ∉ F := fun e => by have := hFlt _ e; omega
  obtain ⟨y, hy⟩ : ∃ y : Nat, 64 * p = y := ⟨_, rfl⟩
  have hyi : (p : Int) * 64 = y := by omega
  have hyb : y ≤ 20000 := by omega
  have HLE := (show Hid (y + 32 ≤ 64 * kd.length) from by show _ ≤ _; omega)
  rw [hy]
  have hmk : ∀ w, (Instr.makeSlice 71 (.int .i64 2) (.int .i64 2)).run Try.prog w = .ok (.slice (some ⟨w.heap.size, 0, none⟩) 2 2) (w.alloc (.cells (madeCells #[.bool false] 2) 4)) :=
    fun w => run_make_row' (P := Try.prog) 71 4 (.bool false) 1 Try.underlying71 Try.infoBool rfl .i64 .i64 2 (by omega) (by omega) w
  clear hcr hfree
  have HLX := (show Hid (∀ t ys, kat kd t = .small 4 ys → ys.length ≤ 32) from fun t ys e => by
    obtain ⟨_, hl, _⟩ := hw.small t 4 ys e
    have := (sz_facts 4 hc).2.2.2.2.2.1
    show ys.length ≤ 32
    omega)
  clear h hw hcl hp hr hbl hnn hy
  go_enter Try.func19, Try.ntmps19
  go_wp2_with fail
  refine (rblock_any _ _).mono ?_
  rw [HB.out]
  rintro e w1 ⟨rfl, hK1⟩
  go_wp2_with fail
  refine (rclass_any _ _).mono ?_
  rw [HC.out]
  rintro e w2 ⟨rfl, hK2⟩
  have hK3 := (hK.trans hK1).trans hK2
  have hM2 := HM.out.keep0 hK3
  have hx2 := (hK1.trans hK2).blk hx (by simp)
  have c1 := hM2.c1
  have c3 := hM2.c3
  rw [HN.out] at c1 c3
  have HM2 := (show Hid (RpAt w2 mb L F ws (kindL kd) (bigL kd) kd) from hM2)
  clear hM2 hK1 hK2 hK hx
  go_wp2_with fail
  go_loop [10] (fun v => ∃ j : Nat, v = .int .i64 j ∧ j ≤ nn) (fun v => nn - (intOf v).toNat)
  case atStart => exact ⟨0, rfl, by omega⟩
  case round =>
    obtain ⟨j, rfl, hj⟩ := hrel
    by_cases hlt : j < nn
    · have ck := HM2.out.ck (p := j) (by rw [HN.out]; omega)
      rw [kindL_get] at ck
      have hjn : decide ((j : Int) < (nn : Int)) = true := by rw [decide_eq_true_iff]; omega
      have HF := HPN.out j
      rcases kind_look (kd := kd) 4 j hc with ⟨hk1, _⟩ | ⟨ys, hk1, hh⟩
      · generalize (kat kd j).kind = kv at *
        have hkd : decide (kv = 4 + 1) = false := by rw [decide_eq_false_iff_not]; exact hk1
        have hkd2 : decide (kv = 5) = false := by rw [decide_eq_false_iff_not]; exact hk1
        have hkd3 : kv ≠ 5 := hk1
        clear HF
        go_wp2_with fail
        go_round
        case rel => exact ⟨j + 1, by go_num, by omega⟩
        case measure => simp [intOf]; omega
      · rw [hk1] at ck
        have hck : w2.cell? ⟨L.gk, j, none⟩ = some (.int .i64 5) := ck
        have ct : w2.cell? ⟨L.gt, j, none⟩ = some (.slice (some ⟨L.T j, 0, none⟩) ys.length ys.length) := by
          have := HM2.out.ct (p := j) (by rw [HN.out]; omega)
          rw [hk1] at this; exact this
        have hBR := HM2.out.page j 4 ys hk1
        have HYA := (show Hid (nextR ys (0 : Int).toNat false = -1) from by
          have ha := bool_no HF hh
          unfold allB at ha
          rcases nextR_spec ys false _ 0 rfl with ⟨e, _⟩ | ⟨l, e, _⟩
          · exact e
          · rw [e] at ha; have := of_decide_eq_true ha; omega)
        have hyl := HLX.out j ys hk1
        clear HF hh ck hk1
        go_wp2_with (first | (go_at_call 43; refine (rnext_any (L.T j) ys.length ys.length 0 false ys w2 hBR rfl (by omega) (by omega)).mono ?_; rw [HYA.out]; rintro e w' ⟨rfl, rfl⟩))
        go_round
        case rel => exact ⟨j + 1, by go_num, by omega⟩
        case measure => simp [intOf]; omega
    · obtain rfl : j = nn := by omega
      go_wp2_with fail
      refine (rpages_ok mb L F ws (bigL kd) kd w2 HM2.out HW.out.len1 HW.out.len2).mono ?_
      rw [HN.out]
      rintro e w3 ⟨g, rfl, hBR, hK4, hg⟩
      go_wp2_with fail
      refine (run_dn g j j 1 (takenL kd) w3 hBR (by rw [takenL_length, HN.out]) (by omega) (by omega)).mono ?_
      rw [HR.out]
      rintro e w' ⟨rfl, rfl⟩
      have hx1 := hK4.blk hx2 (by simp)
      have hM4 := HM2.out.keep0 hK4
      have c1 := hM4.c1
      have c3 := hM4.c3
      rw [HN.out] at c1 c3
      have ckp := hM4.ck (p := p) HPL.out
      have fkp := hM4.rowK.free p
      have hM5 := hM4.setK p 5
      have c3b := hM5.c3
      rw [HN.out] at c3b
      have ctp := hM5.ct (p := p) HPL.out
      have ftp := hM5.ft p
      have hx5 := (Keep.setCell (S := F) w3 (.int .i64 5) (a := ⟨L.gk, p, none⟩) f.2.2.1).blk hx1 hbF
      have hK5 := ((hK3.trans hK4).mono (T := F) (by simp)).trans (Keep.setCell w3 (.int .i64 5) (a := ⟨L.gk, p, none⟩) f.2.2.1)
      go_wp2_with fail
      generalize w3.setCell ⟨L.gk, p, none⟩ (.int .i64 5) = w5 at *
      have hM6 := hM5.keep0 (Keep.alloc [] w5 (.cells (madeCells #[.bool false] 2) 4))
      have c3d := hM6.c3
      rw [HN.out] at c3d
      have ctd := hM6.ct (p := p) HPL.out
      have ftd := hM6.ft p
      have hBR0 := BRow.made w5 4 2
      have hq5 : bx < w5.heap.size := lt_of_block hx5
      have hw5 : w.heap.size ≤ w5.heap.size := hK5.size
      have hqF : w5.heap.size ∉ F := fun e => by have := hM5.lt _ e; omega
      have hM7 := (hM6.gain (p := p) (c := 4) (q := w5.heap.size) (xs := offs 2) HPL.out hBR0 hqF).keep0 (Keep.drew [] _)
      rw [offs_length] at hM7
      have hK7 := ((hK5.trans ((Keep.alloc [] w5 (.cells (madeCells #[.bool false] 2) 4)).mono (by simp))).trans (Keep.setCell (S := F) _ (.slice (some ⟨w5.heap.size, 0, none⟩) 2 2) (a := ⟨L.gt, p, none⟩) f.2.2.2.2)).trans (Keep.drew F _)
      have hx7 := (Keep.drew F _).blk ((Keep.setCell (S := F) _ (.slice (some ⟨w5.heap.size, 0, none⟩) 2 2) (a := ⟨L.gt, p, none⟩) f.2.2.2.2).blk ((Keep.alloc F w5 (.cells (madeCells #[.bool false] 2) 4)).blk hx5 hbF) hbF) hbF
      go_region
      generalize ((w5.alloc (.cells (madeCells #[.bool false] 2) 4)).setCell ⟨L.gt, p, none⟩ (.slice (some ⟨w5.heap.size, 0, none⟩) 2 2)).drew = w8 at *
      obtain ⟨q, hq⟩ : ∃ q, w5.heap.size = q := ⟨_, rfl⟩
      rw [hq] at hM7 hqF hq5 hw5
      clear hM6 c3d ctd ftd hM5 c3b ctp ftp hM4 c1 c3 ckp fkp hBR0 hBR hK5 hx5 hq
      have hkat := kat_set_same kd p (.small 4 (offs 2)) HPL.out
      have c3e := hM7.c3
      rw [List.length_set, HN.out] at c3e
      have c3f : w8.cell? ⟨mb, 3, none⟩ = some (.slice (some ⟨L.gt, 0, none⟩) j j) := c3e
      have cte : w8.cell? ⟨L.gt, p, none⟩ = some (.slice (some ⟨q, 0, none⟩) 2 2) := by
        have := hM7.ct (p := p) (by rw [List.length_set]; exact HPL.out)
        rw [hkat] at this
        have e : (L.more p q).T p = q := if_pos rfl
        have e2 : (PK.small 4 (offs 2)).slot ((L.more p q).T p) = .slice (some ⟨q, 0, none⟩) 2 2 := by rw [e]; show Value.slice _ (offs 2).length (offs 2).length = _; rw [offs_length]
        rw [e2] at this
        exact this
      have hBRe : BRow w8 4 q (offs 2) := by
        have := hM7.page p 4 (offs 2) hkat
        have e : (L.more p q).T p = q := if_pos rfl
        rw [e] at this; exact this
      have cxe := hBRe.cell (i := 0) (by rw [offs_length]; omega)
      have fxe := hBRe.free 0
      have HNX := (show Hid (nextR (offs 2) (0 : Int).toNat false = 0) from nextR_is _ _ _ 0 (by omega) (by rw [offs_length]; omega) (offs_get _ _) (fun t a b => by omega))
      have hS9 := hM7.inner (i := 0) (b := true) hkat
      rw [List.set_set, show (L.more p q).T p = q from if_pos rfl] at hS9
      have HS9 := (show Hid (RpAt (w8.setCell ⟨q, 0, none⟩ (.bool true)) mb (L.more p q) (q :: F) ws ((kindL kd).set p 5) (bigL kd) (kd.set p (.small 4 ((offs 2).set 0 true)))) from hS9)
      have hbq : bx ∉ q :: F := fun e => by
        rcases List.mem_cons.1 e with e | e
        · omega
        · exact hbF e
      have hK9 := (hK7.mono (T := q :: F) (fun _ e => List.mem_cons_of_mem _ e)).trans (Keep.setCell w8 (.bool true) (a := ⟨q, 0, none⟩) (by simp))
      have hx9 := (Keep.setCell (S := q :: F) w8 (.bool true) (a := ⟨q, 0, none⟩) (by simp)).blk hx7 hbq
      clear hM7 hS9 c3e
      go_wp2_with (first | (go_at_call 43; refine (rnext_any q 2 2 0 false (offs 2) w8 hBRe (offs_length _) (by omega) (by omega)).mono ?_; rw [HNX.out]; rintro e w' ⟨rfl, rfl⟩))
      generalize w8.setCell ⟨q, 0, none⟩ (.bool true) = w10 at *
      refine (rfill_any mb y 32 (L.more p q) (q :: F) ws _ _ _ w10 HS9.out (by rw [List.length_set]; exact HLE.out) (by rw [List.length_set, HN.out]; exact hn2)).mono ?_
      rintro e w11 ⟨rfl, hR11, hK11⟩
      have hK12 := hK9.trans (hK11.mono (fun k e => by simp at e; subst e; exact List.mem_cons_of_mem _ f.2.1))
      have hx11 := hK11.blk hx9 (by simp; intro e; exact hbF (e ▸ f.2.1))
      have f0 : w11.frozen? ⟨bx, 0, none⟩ = false := by simp [World.frozen?, hx11]
      have f1 : w11.frozen? ⟨bx, 1, none⟩ = false := by simp [World.frozen?, hx11]
      have g0 : w11.cell? ⟨bx, 0, none⟩ = some (.int .i64 0) := by simp [World.cell?, hx11]
      have g1 : w11.cell? ⟨bx, 1, none⟩ = some (.int .i64 0) := by simp [World.cell?, hx11]
      have HKZ := (show Hid (∀ a b, Keep F w ((w11.setCell ⟨bx, 0, none⟩ a).setCell ⟨bx, 1, none⟩ b)) from fun a b => (Keep.two hK12 (by omega)).drop (fun k e hlt => by
        rcases List.mem_cons.1 e with e | e
        · omega
        · exact e))
      have HRZ := (show Hid (∀ u v, RpAt ((w11.setCell ⟨bx, 0, none⟩ u).setCell ⟨bx, 1, none⟩ v) mb (L.more p q) (q :: F) (fill0 ws y 32) ((kindL kd).set p 5) (bigL kd) (kd.set p (.small 4 ((offs 2).set 0 true)))) from fun u v => hR11.keep (S := [bx]) ((Keep.setCell w11 u (a := ⟨bx, 0, none⟩) (by simp)).trans (Keep.setCell _ v (a := ⟨bx, 1, none⟩) (by simp))) (fun k hq e => by simp at e; subst e; exact hbq hq))
      have HKS := (show Hid (kindL (kd.set p (.small 4 ((offs 2).set 0 true))) = (kindL kd).set p 5 ∧ bigL (kd.set p (.small 4 ((offs 2).set 0 true))) = bigL kd) from ⟨by simp [kindL, List.map_set, PK.kind], by
        refine eq_of_getD (by simp [bigL]) (fun t => ?_)
        rw [bigL_get, bigL_get, kat_set _ _ _ _ HPL.out]
        split
        · rename_i e; subst e; rw [HFP.out]; rfl
        · rfl⟩)
      have HGR := (show Hid (Grows w F (q :: F)) from fun k e => by
        rcases List.mem_cons.1 e with e | e
        · right; omega
        · exact .inl e)
      clear hR11 hK11 hK12 HS9 hx9 hK9
      go_wp2
      refine bodyPost_ret (results_cell_row rfl _ _ bx 46 #[.int .i64 y, .int .i64 0] (0, 0) _ rfl (two_set hx11) Try.underlying46 rfl (by kernel_rfl)) rfl ?_
      refine ⟨L.more p q, q :: F, rfl, ?_, HKZ.out _ _, HGR.out⟩
      rw [HKS.out.1, HKS.out.2]
      exact HRZ.out _ _

theorem ralloc_new (mb p c : Nat) (n : Int) (L : RLay) (F : List Nat) (ws : List Int) (kd : List PK) (w : World) (h : RpAt w mb L F ws (kindL kd) (bigL kd) kd) (hw : WF kd) (hcl : classI n = c) (hc : c < 5) (hp : nextR (hasL c kd) 0 true = -1) (hr : runR (takenL kd) 0 1 = p) :
    Calls Try.prog 19 #[.pointer (some ⟨mb, 0, none⟩), .int .i64 n] w fun e w' => ∃ L' F', e = .returned (.agg #[.int .i64 ((64 * p : Nat) : Int), .int .i64 0]) ∧ RpAt w' mb L' F' (fill0 ws (64 * p) (sz c)) (kindL (kd.set p (.small c ((offs (roomOf c)).set 0 true)))) (bigL (kd.set p (.small c ((offs (roomOf c)).set 0 true)))) (kd.set p (.small c ((offs (roomOf c)).set 0 true))) ∧ Keep F w w' ∧ Grows w F F' := by
  rcases (show c = 0 ∨ c = 1 ∨ c = 2 ∨ c = 3 ∨ c = 4 by omega) with rfl | rfl | rfl | rfl | rfl
  · exact ralloc_new0 mb p n L F ws kd w h hw hcl hp hr
  · exact ralloc_new1 mb p n L F ws kd w h hw hcl hp hr
  · exact ralloc_new2 mb p n L F ws kd w h hw hcl hp hr
  · exact ralloc_new3 mb p n L F ws kd w h hw hcl hp hr
  · exact ralloc_new4 mb p n L F ws kd w h hw hcl hp hr
/-- Alloc of the document's own that has room, and that has none. -/
theorem ralloc_yes (mb a b : Nat) (n : Int) (F : List Nat) (ws : List Int) (kd kd' : List PK) (w : World) (h : IsRef w mb F ws kd) (hw : WF kd) (hr : AllocR kd n (some (a, kd'))) (hb : blockI n = b) :
    Calls Try.prog 19 #[.pointer (some ⟨mb, 0, none⟩), .int .i64 n] w fun e w' => ∃ F', e = .returned (.agg #[.int .i64 a, .int .i64 0]) ∧ IsRef w' mb F' (fill0 ws a b) kd' ∧ Keep F w w' ∧ Grows w F F' := by
  obtain ⟨L, h⟩ := h
  cases hr with
  | old c p i xs e1 e2 e3 e4 e5 =>
    obtain ⟨hc, _, _⟩ := hw.small p c xs e3
    obtain rfl : b = sz c := by
      have := (sz_facts c hc).1
      rw [block_class n c e1] at hb
      unfold wordsOf at this
      omega
    refine (ralloc_old mb c p i n xs L F ws kd w h hw e1 hc e2 e3 e4 e5).mono ?_
    rintro e w' ⟨rfl, hS, hK⟩
    exact ⟨F, rfl, ⟨L, hS⟩, hK, Grows.refl _ _⟩
  | new c p e1 e2 e3 =>
    obtain ⟨c', hc', hc⟩ : ∃ j : Nat, classI n = j ∧ j < 5 := by
      rcases class_lt n with e | e
      · rw [e1] at e; omega
      · exact e
    obtain rfl : c = c' := by rw [e1] at hc'; omega
    obtain rfl : b = sz c := by
      have := (sz_facts c hc).1
      rw [block_class n c e1] at hb
      unfold wordsOf at this
      omega
    refine (ralloc_new mb p c n L F ws kd w h hw e1 hc e2 e3).mono ?_
    rintro e w' ⟨L', F', rfl, hS, hK, hG⟩
    exact ⟨F', rfl, ⟨L', hS⟩, hK, hG⟩
  | large k p e1 e2 e3 e4 =>
    obtain rfl : b = 64 * k := by rw [block_none n e1, e2] at hb; omega
    refine (ralloc_large mb k p n L F ws kd w h hw e1 e2 e3 e4).mono ?_
    rintro e w' ⟨rfl, hS, hK⟩
    exact ⟨F, rfl, ⟨L, hS⟩, hK, Grows.refl _ _⟩
theorem ralloc_no (mb : Nat) (n : Int) (F : List Nat) (ws : List Int) (kd : List PK) (w : World) (h : IsRef w mb F ws kd) (hw : WF kd) (hr : AllocR kd n none) :
    Calls Try.prog 19 #[.pointer (some ⟨mb, 0, none⟩), .int .i64 n] w fun e w' => e = .returned (.agg #[.int .i64 0, .int .i64 3]) ∧ Keep [] w w' := by
  obtain ⟨L, h⟩ := h
  cases hr with
  | full c e1 e2 e3 =>
    obtain ⟨c', hc', hc⟩ : ∃ j : Nat, classI n = j ∧ j < 5 := by
      rcases class_lt n with e | e
      · rw [e1] at e; omega
      · exact e
    obtain rfl : c = c' := by rw [e1] at hc'; omega
    exact ralloc_full mb c n L F ws kd w h hw e1 hc e2 e3
  | over k e1 e2 e3 e4 => exact ralloc_over mb k n L F ws kd w h hw e1 e2 e3 e4

end Go.Proofs.Ytfmfnmpibnddmaa
