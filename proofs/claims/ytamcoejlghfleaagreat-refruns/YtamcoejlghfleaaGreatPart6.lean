/-
  Contracts of what the statement calls, one text behind the other (RSpaceAllocN, RSpaceAllocM, HeadRefGet, RHeapAt, Obj, ObjMake, RHeap, RHeapMake, RHeapMk, ObjNew).
-/
import Derived.Test.YtamcoejlghfleaaGreatPart5
import Derived.RegionTactic
import Derived.ChangeAlike
import Derived.Test.YtamcoejlghfleaaGreatPart3
import Derived.Test.YtamcoejlghfleaaGreatPart1
import Derived.Test.YtamcoejlghfleaaGreatPart4
import Derived.Test.YtamcoejlghfleaaGreatPart2
import Derived.Deep.RegionHeld3
import Derived.Deep.RegionLaw
import Derived.Deep.CutRange

/-
  Alloc of the document's own space: a class whose pages have no room.
-/
namespace Go.Proofs.YtamcoejlghfleaaGreat
open Go.RowKit

set_option maxRecDepth 100000 in
set_option maxHeartbeats 8000000 in
theorem ralloc_full (mb c : Nat) (n : Int) (L : RLay) (F : List Nat) (ws : List Int) (kd : List PK) (w : World) (h : RpAt w mb L F ws (kindL kd) (bigL kd) kd) (hw : WF kd) (hcl : classI n = c) (hc : c < 5) (hp : nextR (hasL c kd) 0 true = -1) (hr : runR (takenL kd) 0 1 = -1) :
    Calls Tryz.prog 60 #[.pointer (some ⟨mb, 0, none⟩), .int .i64 n] w fun e w' => e = .returned (.agg #[.int .i64 0, .int .i64 3]) ∧ Keep [] w w' := by
  obtain ⟨z1, z2, z3, z4, z5, z6, z7⟩ := sz_facts c hc
  have HPN := (show Hid (∀ t, (kat kd t).has c = false) from none_has hp)
  have HR := (show Hid (runR (takenL kd) 0 1 = -1) from hr)
  have hbl : blockI n = ((sz c : Nat) : Int) := by rw [block_class n c hcl]; exact z1
  obtain ⟨s, hs⟩ : ∃ s, sz c = s := ⟨_, rfl⟩
  rw [hs] at hbl z3 z4
  have HB := (show Hid (blockI n = (s : Nat)) from hbl)
  have HC := (show Hid (classI n = c) from hcl)
  have hbn : decide ((s : Int) = 0) = false := by rw [decide_eq_false_iff_not]; omega
  have hc0 : decide ((c : Int) < 0) = false := by rw [decide_eq_false_iff_not]; omega
  have HM := (show Hid (RpAt w mb L F ws (kindL kd) (bigL kd) kd) from h)
  have HW := (show Hid (WF kd) from hw)
  have hx := heap_alloc_new w (.cells #[.int .i64 0, .int .i64 0] 34)
  have hK := Keep.alloc [] w (.cells #[.int .i64 0, .int .i64 0] 34)
  obtain ⟨bx, hbx⟩ : ∃ bx, w.heap.size = bx := ⟨_, rfl⟩
  rw [hbx] at hx
  obtain ⟨nn, hnn⟩ : ∃ nn, kd.length = nn := ⟨_, rfl⟩
  have HN := (show Hid (kd.length = nn) from hnn)
  have hn2 : nn ≤ 256 := by rw [← hnn]; exact hw.len2
  have HLX := (show Hid (∀ t ys, kat kd t = .small c ys → ys.length ≤ 32) from fun t ys e => by
    obtain ⟨_, hl, _⟩ := hw.small t c ys e
    have := (sz_facts c hc).2.2.2.2.2.1
    show ys.length ≤ 32
    omega)
  clear h hw hcl hp hr hbl hs hnn z1 z2 z5 z6 z7
  go_enter Tryz.func60, Tryz.ntmps60
  go_wp2_with fail
  refine (rblock_any _ _).mono ?_
  rw [HB.out]
  rintro e w1 ⟨rfl, hK1⟩
  go_wp2_with fail
  refine (rclass_any _ _).mono ?_
  rw [HC.out]
  rintro e w2 ⟨rfl, hK2⟩
  have hK3 := (hK.trans hK1).trans hK2
  have hM2 := HM.out.keep0 hK3
  have hx2 := (hK1.trans hK2).blk hx (by simp)
  have c1 := hM2.c1
  have c3 := hM2.c3
  rw [HN.out] at c1 c3
  have HM2 := (show Hid (RpAt w2 mb L F ws (kindL kd) (bigL kd) kd) from hM2)
  clear hM2 hK1 hK2 hK hx
  go_wp2_with fail
  go_loop [10] (fun v => ∃ j : Nat, v = .int .i64 j ∧ j ≤ nn) (fun v => nn - (intOf v).toNat)
  case atStart => exact ⟨0, rfl, by omega⟩
  case round =>
    obtain ⟨j, rfl, hj⟩ := hrel
    by_cases hlt : j < nn
    · have ck := HM2.out.ck (p := j) (by rw [HN.out]; omega)
      rw [kindL_get] at ck
      have hjn : decide ((j : Int) < (nn : Int)) = true := by rw [decide_eq_true_iff]; omega
      have HF := HPN.out j
      rcases kind_look (kd := kd) c j hc with ⟨hk1, _⟩ | ⟨ys, hk1, hh⟩
      · generalize (kat kd j).kind = kv at *
        have hkd : decide (kv = (c : Int) + 1) = false := by rw [decide_eq_false_iff_not]; exact hk1
        clear HF
        go_wp2_with fail
        go_round
        case rel => exact ⟨j + 1, by go_num, by omega⟩
        case measure => simp [intOf]; omega
      · rw [hk1] at ck
        have hck : w2.cell? ⟨L.gk, j, none⟩ = some (.int .i64 ((c : Int) + 1)) := ck
        have ct : w2.cell? ⟨L.gt, j, none⟩ = some (.slice (some ⟨L.T j, 0, none⟩) ys.length ys.length) := by
          have := HM2.out.ct (p := j) (by rw [HN.out]; omega)
          rw [hk1] at this; exact this
        have hBR := HM2.out.page j c ys hk1
        have HYA := (show Hid (nextR ys (0 : Int).toNat false = -1) from by
          have ha := bool_no HF hh
          unfold allB at ha
          rcases nextR_spec ys false _ 0 rfl with ⟨e, _⟩ | ⟨l, e, _⟩
          · exact e
          · rw [e] at ha; have := of_decide_eq_true ha; omega)
        have hyl := HLX.out j ys hk1
        clear HF hh ck hk1
        go_wp2_with (first | (go_at_call 88; refine (rnext_any (L.T j) ys.length ys.length 0 false ys w2 hBR rfl (by omega) (by omega)).mono ?_; rw [HYA.out]; rintro e w' ⟨rfl, rfl⟩))
        go_round
        case rel => exact ⟨j + 1, by go_num, by omega⟩
        case measure => simp [intOf]; omega
    · obtain rfl : j = nn := by omega
      go_wp2_with fail
      refine (rpages_ok mb L F ws (bigL kd) kd w2 HM2.out HW.out.len1 HW.out.len2).mono ?_
      rw [HN.out]
      rintro e w3 ⟨g, rfl, hBR, hK4, hg⟩
      go_wp2_with fail
      refine (run_dn g j j 1 (takenL kd) w3 hBR (by rw [takenL_length, HN.out]) (by omega) (by omega)).mono ?_
      rw [HR.out]
      rintro e w' ⟨rfl, rfl⟩
      have hx1 := hK4.blk hx2 (by simp)
      have f0 : w3.frozen? ⟨bx, 0, none⟩ = false := by simp [World.frozen?, hx1]
      have f1 : w3.frozen? ⟨bx, 1, none⟩ = false := by simp [World.frozen?, hx1]
      have g0 : w3.cell? ⟨bx, 0, none⟩ = some (.int .i64 0) := by simp [World.cell?, hx1]
      have g1 : w3.cell? ⟨bx, 1, none⟩ = some (.int .i64 0) := by simp [World.cell?, hx1]
      have HK := (show Hid (∀ a b, Keep [] w ((w3.setCell ⟨bx, 0, none⟩ a).setCell ⟨bx, 1, none⟩ b)) from fun a b => Keep.two (hK3.trans hK4) (by omega))
      go_wp2
      refine bodyPost_ret (results_cell_row rfl _ _ bx 34 #[.int .i64 0, .int .i64 3] (0, 0) _ rfl (two_set hx1) Tryz.underlying34 rfl (by kernel_rfl)) rfl ?_
      exact ⟨rfl, HK.out _ _⟩

end Go.Proofs.YtamcoejlghfleaaGreat

/-
  Alloc of the document's own space: a new page of a class; and all of it.
-/
namespace Go.Proofs.YtamcoejlghfleaaGreat
open Go.RowKit

set_option maxRecDepth 100000 in
set_option maxHeartbeats 8000000 in
theorem ralloc_new0 (mb p : Nat) (n : Int) (L : RLay) (F : List Nat) (ws : List Int) (kd : List PK) (w : World) (h : RpAt w mb L F ws (kindL kd) (bigL kd) kd) (hw : WF kd) (hcl : classI n = 0) (hp : nextR (hasL 0 kd) 0 true = -1) (hr : runR (takenL kd) 0 1 = p) :
    Calls Tryz.prog 60 #[.pointer (some ⟨mb, 0, none⟩), .int .i64 n] w fun e w' => ∃ L' F', e = .returned (.agg #[.int .i64 ((64 * p : Nat) : Int), .int .i64 0]) ∧ RpAt w' mb L' F' (fill0 ws (64 * p) 2) (kindL (kd.set p (.small 0 ((offs 32).set 0 true)))) (bigL (kd.set p (.small 0 ((offs 32).set 0 true)))) (kd.set p (.small 0 ((offs 32).set 0 true))) ∧ Keep F w w' ∧ Grows w F F' := by
  have hc : (0 : Nat) < 5 := by omega
  have HPN := (show Hid (∀ t, (kat kd t).has 0 = false) from none_has hp)
  have HR := (show Hid (runR (takenL kd) 0 1 = p) from hr)
  have hbl : blockI n = ((2 : Nat) : Int) := by rw [block_class n 0 hcl]; rfl
  have HB := (show Hid (blockI n = 2) from hbl)
  have HC := (show Hid (classI n = 0) from hcl)
  have hcr := run_clear (by omega) hr
  obtain ⟨hpl, hfree⟩ := clear_free hcr
  have HFP := (show Hid (kat kd p = .free) from hfree p (by omega) (by omega))
  have HPL := (show Hid (p < kd.length) from by show _ < _; omega)
  have hp0 : decide ((p : Int) < 0) = false := by rw [decide_eq_false_iff_not]; omega
  have f := h.f
  have hFlt := h.lt
  have HM := (show Hid (RpAt w mb L F ws (kindL kd) (bigL kd) kd) from h)
  have HW := (show Hid (WF kd) from hw)
  have hx := heap_alloc_new w (.cells #[.int .i64 0, .int .i64 0] 34)
  have hK := Keep.alloc [] w (.cells #[.int .i64 0, .int .i64 0] 34)
  obtain ⟨bx, hbx⟩ : ∃ bx, w.heap.size = bx := ⟨_, rfl⟩
  rw [hbx] at hx
  obtain ⟨nn, hnn⟩ : ∃ nn, kd.length = nn := ⟨_, rfl⟩
  have HN := (show Hid (kd.length = nn) from hnn)
  have hn2 : nn ≤ 256 := by rw [← hnn]; exact hw.len2
  have hpnn : p < nn := by omega
  have hbF : bx ∉ F := fun e => by have := hFlt _ e; omega
  obtain ⟨y, hy⟩ : ∃ y : Nat, 64 * p = y := ⟨_, rfl⟩
  have hyi : (p : Int) * 64 = y := by omega
  have hyb : y ≤ 20000 := by omega
  have HLE := (show Hid (y + 2 ≤ 64 * kd.length) from by show _ ≤ _; omega)
  rw [hy]
  have hmk : ∀ w, (Instr.makeSlice 124 (.int .i64 32) (.int .i64 32)).run Tryz.prog w = .ok (.slice (some ⟨w.heap.size, 0, none⟩) 32 32) (w.alloc (.cells (madeCells #[.bool false] 32) 4)) :=
    fun w => run_make_row' (P := Tryz.prog) 124 4 (.bool false) 1 Tryz.underlying124 Tryz.infoBool rfl .i64 .i64 32 (by omega) (by omega) w
  clear hcr hfree
  have HLX := (show Hid (∀ t ys, kat kd t = .small 0 ys → ys.length ≤ 32) from fun t ys e => by
    obtain ⟨_, hl, _⟩ := hw.small t 0 ys e
    have := (sz_facts 0 hc).2.2.2.2.2.1
    show ys.length ≤ 32
    omega)
  clear h hw hcl hp hr hbl hnn hy
  go_enter Tryz.func60, Tryz.ntmps60
  go_wp2_with fail
  refine (rblock_any _ _).mono ?_
  rw [HB.out]
  rintro e w1 ⟨rfl, hK1⟩
  go_wp2_with fail
  refine (rclass_any _ _).mono ?_
  rw [HC.out]
  rintro e w2 ⟨rfl, hK2⟩
  have hK3 := (hK.trans hK1).trans hK2
  have hM2 := HM.out.keep0 hK3
  have hx2 := (hK1.trans hK2).blk hx (by simp)
  have c1 := hM2.c1
  have c3 := hM2.c3
  rw [HN.out] at c1 c3
  have HM2 := (show Hid (RpAt w2 mb L F ws (kindL kd) (bigL kd) kd) from hM2)
  clear hM2 hK1 hK2 hK hx
  go_wp2_with fail
  go_loop [10] (fun v => ∃ j : Nat, v = .int .i64 j ∧ j ≤ nn) (fun v => nn - (intOf v).toNat)
  case atStart => exact ⟨0, rfl, by omega⟩
  case round =>
    obtain ⟨j, rfl, hj⟩ := hrel
    by_cases hlt : j < nn
    · have ck := HM2.out.ck (p := j) (by rw [HN.out]; omega)
      rw [kindL_get] at ck
      have hjn : decide ((j : Int) < (nn : Int)) = true := by rw [decide_eq_true_iff]; omega
      have HF := HPN.out j
      rcases kind_look (kd := kd) 0 j hc with ⟨hk1, _⟩ | ⟨ys, hk1, hh⟩
      · generalize (kat kd j).kind = kv at *
        have hkd : decide (kv = 0 + 1) = false := by rw [decide_eq_false_iff_not]; exact hk1
        have hkd2 : decide (kv = 1) = false := by rw [decide_eq_false_iff_not]; exact hk1
        have hkd3 : kv ≠ 1 := hk1
        clear HF
        go_wp2_with fail
        go_round
        case rel => exact ⟨j + 1, by go_num, by omega⟩
        case measure => simp [intOf]; omega
      · rw [hk1] at ck
        have hck : w2.cell? ⟨L.gk, j, none⟩ = some (.int .i64 1) := ck
        have ct : w2.cell? ⟨L.gt, j, none⟩ = some (.slice (some ⟨L.T j, 0, none⟩) ys.length ys.length) := by
          have := HM2.out.ct (p := j) (by rw [HN.out]; omega)
          rw [hk1] at this; exact this
        have hBR := HM2.out.page j 0 ys hk1
        have HYA := (show Hid (nextR ys (0 : Int).toNat false = -1) from by
          have ha := bool_no HF hh
          unfold allB at ha
          rcases nextR_spec ys false _ 0 rfl with ⟨e, _⟩ | ⟨l, e, _⟩
          · exact e
          · rw [e] at ha; have := of_decide_eq_true ha; omega)
        have hyl := HLX.out j ys hk1
        clear HF hh ck hk1
        go_wp2_with (first | (go_at_call 88; refine (rnext_any (L.T j) ys.length ys.length 0 false ys w2 hBR rfl (by omega) (by omega)).mono ?_; rw [HYA.out]; rintro e w' ⟨rfl, rfl⟩))
        go_round
        case rel => exact ⟨j + 1, by go_num, by omega⟩
        case measure => simp [intOf]; omega
    · obtain rfl : j = nn := by omega
      go_wp2_with fail
      refine (rpages_ok mb L F ws (bigL kd) kd w2 HM2.out HW.out.len1 HW.out.len2).mono ?_
      rw [HN.out]
      rintro e w3 ⟨g, rfl, hBR, hK4, hg⟩
      go_wp2_with fail
      refine (run_dn g j j 1 (takenL kd) w3 hBR (by rw [takenL_length, HN.out]) (by omega) (by omega)).mono ?_
      rw [HR.out]
      rintro e w' ⟨rfl, rfl⟩
      have hx1 := hK4.blk hx2 (by simp)
      have hM4 := HM2.out.keep0 hK4
      have c1 := hM4.c1
      have c3 := hM4.c3
      rw [HN.out] at c1 c3
      have ckp := hM4.ck (p := p) HPL.out
      have fkp := hM4.rowK.free p
      have hM5 := hM4.setK p 1
      have c3b := hM5.c3
      rw [HN.out] at c3b
      have ctp := hM5.ct (p := p) HPL.out
      have ftp := hM5.ft p
      have hx5 := (Keep.setCell (S := F) w3 (.int .i64 1) (a := ⟨L.gk, p, none⟩) f.2.2.1).blk hx1 hbF
      have hK5 := ((hK3.trans hK4).mono (T := F) (by simp)).trans (Keep.setCell w3 (.int .i64 1) (a := ⟨L.gk, p, none⟩) f.2.2.1)
      go_wp2_with fail
      generalize w3.setCell ⟨L.gk, p, none⟩ (.int .i64 1) = w5 at *
      have hM6 := hM5.keep0 (Keep.alloc [] w5 (.cells (madeCells #[.bool false] 32) 4))
      have c3d := hM6.c3
      rw [HN.out] at c3d
      have ctd := hM6.ct (p := p) HPL.out
      have ftd := hM6.ft p
      have hBR0 := BRow.made w5 4 32
      have hq5 : bx < w5.heap.size := lt_of_block hx5
      have hw5 : w.heap.size ≤ w5.heap.size := hK5.size
      have hqF : w5.heap.size ∉ F := fun e => by have := hM5.lt _ e; omega
      have hM7 := (hM6.gain (p := p) (c := 0) (q := w5.heap.size) (xs := offs 32) HPL.out hBR0 hqF).keep0 (Keep.drew [] _)
      rw [offs_length] at hM7
      have hK7 := ((hK5.trans ((Keep.alloc [] w5 (.cells (madeCells #[.bool false] 32) 4)).mono (by simp))).trans (Keep.setCell (S := F) _ (.slice (some ⟨w5.heap.size, 0, none⟩) 32 32) (a := ⟨L.gt, p, none⟩) f.2.2.2.2)).trans (Keep.drew F _)
      have hx7 := (Keep.drew F _).blk ((Keep.setCell (S := F) _ (.slice (some ⟨w5.heap.size, 0, none⟩) 32 32) (a := ⟨L.gt, p, none⟩) f.2.2.2.2).blk ((Keep.alloc F w5 (.cells (madeCells #[.bool false] 32) 4)).blk hx5 hbF) hbF) hbF
      go_region
      generalize ((w5.alloc (.cells (madeCells #[.bool false] 32) 4)).setCell ⟨L.gt, p, none⟩ (.slice (some ⟨w5.heap.size, 0, none⟩) 32 32)).drew = w8 at *
      obtain ⟨q, hq⟩ : ∃ q, w5.heap.size = q := ⟨_, rfl⟩
      rw [hq] at hM7 hqF hq5 hw5
      clear hM6 c3d ctd ftd hM5 c3b ctp ftp hM4 c1 c3 ckp fkp hBR0 hBR hK5 hx5 hq
      have hkat := kat_set_same kd p (.small 0 (offs 32)) HPL.out
      have c3e := hM7.c3
      rw [List.length_set, HN.out] at c3e
      have c3f : w8.cell? ⟨mb, 3, none⟩ = some (.slice (some ⟨L.gt, 0, none⟩) j j) := c3e
      have cte : w8.cell? ⟨L.gt, p, none⟩ = some (.slice (some ⟨q, 0, none⟩) 32 32) := by
        have := hM7.ct (p := p) (by rw [List.length_set]; exact HPL.out)
        rw [hkat] at this
        have e : (L.more p q).T p = q := if_pos rfl
        have e2 : (PK.small 0 (offs 32)).slot ((L.more p q).T p) = .slice (some ⟨q, 0, none⟩) 32 32 := by rw [e]; show Value.slice _ (offs 32).length (offs 32).length = _; rw [offs_length]
        rw [e2] at this
        exact this
      have hBRe : BRow w8 4 q (offs 32) := by
        have := hM7.page p 0 (offs 32) hkat
        have e : (L.more p q).T p = q := if_pos rfl
        rw [e] at this; exact this
      have cxe := hBRe.cell (i := 0) (by rw [offs_length]; omega)
      have fxe := hBRe.free 0
      have HNX := (show Hid (nextR (offs 32) (0 : Int).toNat false = 0) from nextR_is _ _ _ 0 (by omega) (by rw [offs_length]; omega) (offs_get _ _) (fun t a b => by omega))
      have hS9 := hM7.inner (i := 0) (b := true) hkat
      rw [List.set_set, show (L.more p q).T p = q from if_pos rfl] at hS9
      have HS9 := (show Hid (RpAt (w8.setCell ⟨q, 0, none⟩ (.bool true)) mb (L.more p q) (q :: F) ws ((kindL kd).set p 1) (bigL kd) (kd.set p (.small 0 ((offs 32).set 0 true)))) from hS9)
      have hbq : bx ∉ q :: F := fun e => by
        rcases List.mem_cons.1 e with e | e
        · omega
        · exact hbF e
      have hK9 := (hK7.mono (T := q :: F) (fun _ e => List.mem_cons_of_mem _ e)).trans (Keep.setCell w8 (.bool true) (a := ⟨q, 0, none⟩) (by simp))
      have hx9 := (Keep.setCell (S := q :: F) w8 (.bool true) (a := ⟨q, 0, none⟩) (by simp)).blk hx7 hbq
      clear hM7 hS9 c3e
      go_wp2_with (first | (go_at_call 88; refine (rnext_any q 32 32 0 false (offs 32) w8 hBRe (offs_length _) (by omega) (by omega)).mono ?_; rw [HNX.out]; rintro e w' ⟨rfl, rfl⟩))
      generalize w8.setCell ⟨q, 0, none⟩ (.bool true) = w10 at *
      refine (rfill_any mb y 2 (L.more p q) (q :: F) ws _ _ _ w10 HS9.out (by rw [List.length_set]; exact HLE.out) (by rw [List.length_set, HN.out]; exact hn2)).mono ?_
      rintro e w11 ⟨rfl, hR11, hK11⟩
      have hK12 := hK9.trans (hK11.mono (fun k e => by simp at e; subst e; exact List.mem_cons_of_mem _ f.2.1))
      have hx11 := hK11.blk hx9 (by simp; intro e; exact hbF (e ▸ f.2.1))
      have f0 : w11.frozen? ⟨bx, 0, none⟩ = false := by simp [World.frozen?, hx11]
      have f1 : w11.frozen? ⟨bx, 1, none⟩ = false := by simp [World.frozen?, hx11]
      have g0 : w11.cell? ⟨bx, 0, none⟩ = some (.int .i64 0) := by simp [World.cell?, hx11]
      have g1 : w11.cell? ⟨bx, 1, none⟩ = some (.int .i64 0) := by simp [World.cell?, hx11]
      have HKZ := (show Hid (∀ a b, Keep F w ((w11.setCell ⟨bx, 0, none⟩ a).setCell ⟨bx, 1, none⟩ b)) from fun a b => (Keep.two hK12 (by omega)).drop (fun k e hlt => by
        rcases List.mem_cons.1 e with e | e
        · omega
        · exact e))
      have HRZ := (show Hid (∀ u v, RpAt ((w11.setCell ⟨bx, 0, none⟩ u).setCell ⟨bx, 1, none⟩ v) mb (L.more p q) (q :: F) (fill0 ws y 2) ((kindL kd).set p 1) (bigL kd) (kd.set p (.small 0 ((offs 32).set 0 true)))) from fun u v => hR11.keep (S := [bx]) ((Keep.setCell w11 u (a := ⟨bx, 0, none⟩) (by simp)).trans (Keep.setCell _ v (a := ⟨bx, 1, none⟩) (by simp))) (fun k hq e => by simp at e; subst e; exact hbq hq))
      have HKS := (show Hid (kindL (kd.set p (.small 0 ((offs 32).set 0 true))) = (kindL kd).set p 1 ∧ bigL (kd.set p (.small 0 ((offs 32).set 0 true))) = bigL kd) from ⟨by simp [kindL, List.map_set, PK.kind], by
        refine eq_of_getD (by simp [bigL]) (fun t => ?_)
        rw [bigL_get, bigL_get, kat_set _ _ _ _ HPL.out]
        split
        · rename_i e; subst e; rw [HFP.out]; rfl
        · rfl⟩)
      have HGR := (show Hid (Grows w F (q :: F)) from fun k e => by
        rcases List.mem_cons.1 e with e | e
        · right; omega
        · exact .inl e)
      clear hR11 hK11 hK12 HS9 hx9 hK9
      go_wp2
      refine bodyPost_ret (results_cell_row rfl _ _ bx 34 #[.int .i64 y, .int .i64 0] (0, 0) _ rfl (two_set hx11) Tryz.underlying34 rfl (by kernel_rfl)) rfl ?_
      refine ⟨L.more p q, q :: F, rfl, ?_, HKZ.out _ _, HGR.out⟩
      rw [HKS.out.1, HKS.out.2]
      exact HRZ.out _ _

set_option maxRecDepth 100000 in
set_option maxHeartbeats 8000000 in
theorem ralloc_new1 (mb p : Nat) (n : Int) (L : RLay) (F : List Nat) (ws : List Int) (kd : List PK) (w : World) (h : RpAt w mb L F ws (kindL kd) (bigL kd) kd) (hw : WF kd) (hcl : classI n = 1) (hp : nextR (hasL 1 kd) 0 true = -1) (hr : runR (takenL kd) 0 1 = p) :
    Calls Tryz.prog 60 #[.pointer (some ⟨mb, 0, none⟩), .int .i64 n] w fun e w' => ∃ L' F', e = .returned (.agg #[.int .i64 ((64 * p : Nat) : Int), .int .i64 0]) ∧ RpAt w' mb L' F' (fill0 ws (64 * p) 4) (kindL (kd.set p (.small 1 ((offs 16).set 0 true)))) (bigL (kd.set p (.small 1 ((offs 16).set 0 true)))) (kd.set p (.small 1 ((offs 16).set 0 true))) ∧ Keep F w w' ∧ Grows w F F' := by
  have hc : (1 : Nat) < 5 := by omega
  have HPN := (show Hid (∀ t, (kat kd t).has 1 = false) from none_has hp)
  have HR := (show Hid (runR (takenL kd) 0 1 = p) from hr)
  have hbl : blockI n = ((4 : Nat) : Int) := by rw [block_class n 1 hcl]; rfl
  have HB := (show Hid (blockI n = 4) from hbl)
  have HC := (show Hid (classI n = 1) from hcl)
  have hcr := run_clear (by omega) hr
  obtain ⟨hpl, hfree⟩ := clear_free hcr
  have HFP := (show Hid (kat kd p = .free) from hfree p (by omega) (by omega))
  have HPL := (show Hid (p < kd.length) from by show _ < _; omega)
  have hp0 : decide ((p : Int) < 0) = false := by rw [decide_eq_false_iff_not]; omega
  have f := h.f
  have hFlt := h.lt
  have HM := (show Hid (RpAt w mb L F ws (kindL kd) (bigL kd) kd) from h)
  have HW := (show Hid (WF kd) from hw)
  have hx := heap_alloc_new w (.cells #[.int .i64 0, .int .i64 0] 34)
  have hK := Keep.alloc [] w (.cells #[.int .i64 0, .int .i64 0] 34)
  obtain ⟨bx, hbx⟩ : ∃ bx, w.heap.size = bx := ⟨_, rfl⟩
  rw [hbx] at hx
  obtain ⟨nn, hnn⟩ : ∃ nn, kd.length = nn := ⟨_, rfl⟩
  have HN := (show Hid (kd.length = nn) from hnn)
  have hn2 : nn ≤ 256 := by rw [← hnn]; exact hw.len2
  have hpnn : p < nn := by omega
  have hbF : bx ∉ F := fun e => by have := hFlt _ e; omega
  obtain ⟨y, hy⟩ : ∃ y : Nat, 64 * p = y := ⟨_, rfl⟩
  have hyi : (p : Int) * 64 = y := by omega
  have hyb : y ≤ 20000 := by omega
  have HLE := (show Hid (y + 4 ≤ 64 * kd.length) from by show _ ≤ _; omega)
  rw [hy]
  have hmk : ∀ w, (Instr.makeSlice 124 (.int .i64 16) (.int .i64 16)).run Tryz.prog w = .ok (.slice (some ⟨w.heap.size, 0, none⟩) 16 16) (w.alloc (.cells (madeCells #[.bool false] 16) 4)) :=
    fun w => run_make_row' (P := Tryz.prog) 124 4 (.bool false) 1 Tryz.underlying124 Tryz.infoBool rfl .i64 .i64 16 (by omega) (by omega) w
  clear hcr hfree
  have HLX := (show Hid (∀ t ys, kat kd t = .small 1 ys → ys.length ≤ 32) from fun t ys e => by
    obtain ⟨_, hl, _⟩ := hw.small t 1 ys e
    have := (sz_facts 1 hc).2.2.2.2.2.1
    show ys.length ≤ 32
    omega)
  clear h hw hcl hp hr hbl hnn hy
  go_enter Tryz.func60, Tryz.ntmps60
  go_wp2_with fail
  refine (rblock_any _ _).mono ?_
  rw [HB.out]
  rintro e w1 ⟨rfl, hK1⟩
  go_wp2_with fail
  refine (rclass_any _ _).mono ?_
  rw [HC.out]
  rintro e w2 ⟨rfl, hK2⟩
  have hK3 := (hK.trans hK1).trans hK2
  have hM2 := HM.out.keep0 hK3
  have hx2 := (hK1.trans hK2).blk hx (by simp)
  have c1 := hM2.c1
  have c3 := hM2.c3
  rw [HN.out] at c1 c3
  have HM2 := (show Hid (RpAt w2 mb L F ws (kindL kd) (bigL kd) kd) from hM2)
  clear hM2 hK1 hK2 hK hx
  go_wp2_with fail
  go_loop [10] (fun v => ∃ j : Nat, v = .int .i64 j ∧ j ≤ nn) (fun v => nn - (intOf v).toNat)
  case atStart => exact ⟨0, rfl, by omega⟩
  case round =>
    obtain ⟨j, rfl, hj⟩ := hrel
    by_cases hlt : j < nn
    · have ck := HM2.out.ck (p := j) (by rw [HN.out]; omega)
      rw [kindL_get] at ck
      have hjn : decide ((j : Int) < (nn : Int)) = true := by rw [decide_eq_true_iff]; omega
      have HF := HPN.out j
      rcases kind_look (kd := kd) 1 j hc with ⟨hk1, _⟩ | ⟨ys, hk1, hh⟩
      · generalize (kat kd j).kind = kv at *
        have hkd : decide (kv = 1 + 1) = false := by rw [decide_eq_false_iff_not]; exact hk1
        have hkd2 : decide (kv = 2) = false := by rw [decide_eq_false_iff_not]; exact hk1
        have hkd3 : kv ≠ 2 := hk1
        clear HF
        go_wp2_with fail
        go_round
        case rel => exact ⟨j + 1, by go_num, by omega⟩
        case measure => simp [intOf]; omega
      · rw [hk1] at ck
        have hck : w2.cell? ⟨L.gk, j, none⟩ = some (.int .i64 2) := ck
        have ct : w2.cell? ⟨L.gt, j, none⟩ = some (.slice (some ⟨L.T j, 0, none⟩) ys.length ys.length) := by
          have := HM2.out.ct (p := j) (by rw [HN.out]; omega)
          rw [hk1] at this; exact this
        have hBR := HM2.out.page j 1 ys hk1
        have HYA := (show Hid (nextR ys (0 : Int).toNat false = -1) from by
          have ha := bool_no HF hh
          unfold allB at ha
          rcases nextR_spec ys false _ 0 rfl with ⟨e, _⟩ | ⟨l, e, _⟩
          · exact e
          · rw [e] at ha; have := of_decide_eq_true ha; omega)
        have hyl := HLX.out j ys hk1
        clear HF hh ck hk1
        go_wp2_with (first | (go_at_call 88; refine (rnext_any (L.T j) ys.length ys.length 0 false ys w2 hBR rfl (by omega) (by omega)).mono ?_; rw [HYA.out]; rintro e w' ⟨rfl, rfl⟩))
        go_round
        case rel => exact ⟨j + 1, by go_num, by omega⟩
        case measure => simp [intOf]; omega
    · obtain rfl : j = nn := by omega
      go_wp2_with fail
      refine (rpages_ok mb L F ws (bigL kd) kd w2 HM2.out HW.out.len1 HW.out.len2).mono ?_
      rw [HN.out]
      rintro e w3 ⟨g, rfl, hBR, hK4, hg⟩
      go_wp2_with fail
      refine (run_dn g j j 1 (takenL kd) w3 hBR (by rw [takenL_length, HN.out]) (by omega) (by omega)).mono ?_
      rw [HR.out]
      rintro e w' ⟨rfl, rfl⟩
      have hx1 := hK4.blk hx2 (by simp)
      have hM4 := HM2.out.keep0 hK4
      have c1 := hM4.c1
      have c3 := hM4.c3
      rw [HN.out] at c1 c3
      have ckp := hM4.ck (p := p) HPL.out
      have fkp := hM4.rowK.free p
      have hM5 := hM4.setK p 2
      have c3b := hM5.c3
      rw [HN.out] at c3b
      have ctp := hM5.ct (p := p) HPL.out
      have ftp := hM5.ft p
      have hx5 := (Keep.setCell (S := F) w3 (.int .i64 2) (a := ⟨L.gk, p, none⟩) f.2.2.1).blk hx1 hbF
      have hK5 := ((hK3.trans hK4).mono (T := F) (by simp)).trans (Keep.setCell w3 (.int .i64 2) (a := ⟨L.gk, p, none⟩) f.2.2.1)
      go_wp2_with fail
      generalize w3.setCell ⟨L.gk, p, none⟩ (.int .i64 2) = w5 at *
      have hM6 := hM5.keep0 (Keep.alloc [] w5 (.cells (madeCells #[.bool false] 16) 4))
      have c3d := hM6.c3
      rw [HN.out] at c3d
      have ctd := hM6.ct (p := p) HPL.out
      have ftd := hM6.ft p
      have hBR0 := BRow.made w5 4 16
      have hq5 : bx < w5.heap.size := lt_of_block hx5
      have hw5 : w.heap.size ≤ w5.heap.size := hK5.size
      have hqF : w5.heap.size ∉ F := fun e => by have := hM5.lt _ e; omega
      have hM7 := (hM6.gain (p := p) (c := 1) (q := w5.heap.size) (xs := offs 16) HPL.out hBR0 hqF).keep0 (Keep.drew [] _)
      rw [offs_length] at hM7
      have hK7 := ((hK5.trans ((Keep.alloc [] w5 (.cells (madeCells #[.bool false] 16) 4)).mono (by simp))).trans (Keep.setCell (S := F) _ (.slice (some ⟨w5.heap.size, 0, none⟩) 16 16) (a := ⟨L.gt, p, none⟩) f.2.2.2.2)).trans (Keep.drew F _)
      have hx7 := (Keep.drew F _).blk ((Keep.setCell (S := F) _ (.slice (some ⟨w5.heap.size, 0, none⟩) 16 16) (a := ⟨L.gt, p, none⟩) f.2.2.2.2).blk ((Keep.alloc F w5 (.cells (madeCells #[.bool false] 16) 4)).blk hx5 hbF) hbF) hbF
      go_region
      generalize ((w5.alloc (.cells (madeCells #[.bool false] 16) 4)).setCell ⟨L.gt, p, none⟩ (.slice (some ⟨w5.heap.size, 0, none⟩) 16 16)).drew = w8 at *
      obtain ⟨q, hq⟩ : ∃ q, w5.heap.size = q := ⟨_, rfl⟩
      rw [hq] at hM7 hqF hq5 hw5
      clear hM6 c3d ctd ftd hM5 c3b ctp ftp hM4 c1 c3 ckp fkp hBR0 hBR hK5 hx5 hq
      have hkat := kat_set_same kd p (.small 1 (offs 16)) HPL.out
      have c3e := hM7.c3
      rw [List.length_set, HN.out] at c3e
      have c3f : w8.cell? ⟨mb, 3, none⟩ = some (.slice (some ⟨L.gt, 0, none⟩) j j) := c3e
      have cte : w8.cell? ⟨L.gt, p, none⟩ = some (.slice (some ⟨q, 0, none⟩) 16 16) := by
        have := hM7.ct (p := p) (by rw [List.length_set]; exact HPL.out)
        rw [hkat] at this
        have e : (L.more p q).T p = q := if_pos rfl
        have e2 : (PK.small 1 (offs 16)).slot ((L.more p q).T p) = .slice (some ⟨q, 0, none⟩) 16 16 := by rw [e]; show Value.slice _ (offs 16).length (offs 16).length = _; rw [offs_length]
        rw [e2] at this
        exact this
      have hBRe : BRow w8 4 q (offs 16) := by
        have := hM7.page p 1 (offs 16) hkat
        have e : (L.more p q).T p = q := if_pos rfl
        rw [e] at this; exact this
      have cxe := hBRe.cell (i := 0) (by rw [offs_length]; omega)
      have fxe := hBRe.free 0
      have HNX := (show Hid (nextR (offs 16) (0 : Int).toNat false = 0) from nextR_is _ _ _ 0 (by omega) (by rw [offs_length]; omega) (offs_get _ _) (fun t a b => by omega))
      have hS9 := hM7.inner (i := 0) (b := true) hkat
      rw [List.set_set, show (L.more p q).T p = q from if_pos rfl] at hS9
      have HS9 := (show Hid (RpAt (w8.setCell ⟨q, 0, none⟩ (.bool true)) mb (L.more p q) (q :: F) ws ((kindL kd).set p 2) (bigL kd) (kd.set p (.small 1 ((offs 16).set 0 true)))) from hS9)
      have hbq : bx ∉ q :: F := fun e => by
        rcases List.mem_cons.1 e with e | e
        · omega
        · exact hbF e
      have hK9 := (hK7.mono (T := q :: F) (fun _ e => List.mem_cons_of_mem _ e)).trans (Keep.setCell w8 (.bool true) (a := ⟨q, 0, none⟩) (by simp))
      have hx9 := (Keep.setCell (S := q :: F) w8 (.bool true) (a := ⟨q, 0, none⟩) (by simp)).blk hx7 hbq
      clear hM7 hS9 c3e
      go_wp2_with (first | (go_at_call 88; refine (rnext_any q 16 16 0 false (offs 16) w8 hBRe (offs_length _) (by omega) (by omega)).mono ?_; rw [HNX.out]; rintro e w' ⟨rfl, rfl⟩))
      generalize w8.setCell ⟨q, 0, none⟩ (.bool true) = w10 at *
      refine (rfill_any mb y 4 (L.more p q) (q :: F) ws _ _ _ w10 HS9.out (by rw [List.length_set]; exact HLE.out) (by rw [List.length_set, HN.out]; exact hn2)).mono ?_
      rintro e w11 ⟨rfl, hR11, hK11⟩
      have hK12 := hK9.trans (hK11.mono (fun k e => by simp at e; subst e; exact List.mem_cons_of_mem _ f.2.1))
      have hx11 := hK11.blk hx9 (by simp; intro e; exact hbF (e ▸ f.2.1))
      have f0 : w11.frozen? ⟨bx, 0, none⟩ = false := by simp [World.frozen?, hx11]
      have f1 : w11.frozen? ⟨bx, 1, none⟩ = false := by simp [World.frozen?, hx11]
      have g0 : w11.cell? ⟨bx, 0, none⟩ = some (.int .i64 0) := by simp [World.cell?, hx11]
      have g1 : w11.cell? ⟨bx, 1, none⟩ = some (.int .i64 0) := by simp [World.cell?, hx11]
      have HKZ := (show Hid (∀ a b, Keep F w ((w11.setCell ⟨bx, 0, none⟩ a).setCell ⟨bx, 1, none⟩ b)) from fun a b => (Keep.two hK12 (by omega)).drop (fun k e hlt => by
        rcases List.mem_cons.1 e with e | e
        · omega
        · exact e))
      have HRZ := (show Hid (∀ u v, RpAt ((w11.setCell ⟨bx, 0, none⟩ u).setCell ⟨bx, 1, none⟩ v) mb (L.more p q) (q :: F) (fill0 ws y 4) ((kindL kd).set p 2) (bigL kd) (kd.set p (.small 1 ((offs 16).set 0 true)))) from fun u v => hR11.keep (S := [bx]) ((Keep.setCell w11 u (a := ⟨bx, 0, none⟩) (by simp)).trans (Keep.setCell _ v (a := ⟨bx, 1, none⟩) (by simp))) (fun k hq e => by simp at e; subst e; exact hbq hq))
      have HKS := (show Hid (kindL (kd.set p (.small 1 ((offs 16).set 0 true))) = (kindL kd).set p 2 ∧ bigL (kd.set p (.small 1 ((offs 16).set 0 true))) = bigL kd) from ⟨by simp [kindL, List.map_set, PK.kind], by
        refine eq_of_getD (by simp [bigL]) (fun t => ?_)
        rw [bigL_get, bigL_get, kat_set _ _ _ _ HPL.out]
        split
        · rename_i e; subst e; rw [HFP.out]; rfl
        · rfl⟩)
      have HGR := (show Hid (Grows w F (q :: F)) from fun k e => by
        rcases List.mem_cons.1 e with e | e
        · right; omega
        · exact .inl e)
      clear hR11 hK11 hK12 HS9 hx9 hK9
      go_wp2
      refine bodyPost_ret (results_cell_row rfl _ _ bx 34 #[.int .i64 y, .int .i64 0] (0, 0) _ rfl (two_set hx11) Tryz.underlying34 rfl (by kernel_rfl)) rfl ?_
      refine ⟨L.more p q, q :: F, rfl, ?_, HKZ.out _ _, HGR.out⟩
      rw [HKS.out.1, HKS.out.2]
      exact HRZ.out _ _

set_option maxRecDepth 100000 in
set_option maxHeartbeats 8000000 in
theorem ralloc_new2 (mb p : Nat) (n : Int) (L : RLay) (F : List Nat) (ws : List Int) (kd : List PK) (w : World) (h : RpAt w mb L F ws (kindL kd) (bigL kd) kd) (hw : WF kd) (hcl : classI n = 2) (hp : nextR (hasL 2 kd) 0 true = -1) (hr : runR (takenL kd) 0 1 = p) :
    Calls Tryz.prog 60 #[.pointer (some ⟨mb, 0, none⟩), .int .i64 n] w fun e w' => ∃ L' F', e = .returned (.agg #[.int .i64 ((64 * p : Nat) : Int), .int .i64 0]) ∧ RpAt w' mb L' F' (fill0 ws (64 * p) 8) (kindL (kd.set p (.small 2 ((offs 8).set 0 true)))) (bigL (kd.set p (.small 2 ((offs 8).set 0 true)))) (kd.set p (.small 2 ((offs 8).set 0 true))) ∧ Keep F w w' ∧ Grows w F F' := by
  have hc : (2 : Nat) < 5 := by omega
  have HPN := (show Hid (∀ t, (kat kd t).has 2 = false) from none_has hp)
  have HR := (show Hid (runR (takenL kd) 0 1 = p) from hr)
  have hbl : blockI n = ((8 : Nat) : Int) := by rw [block_class n 2 hcl]; rfl
  have HB := (show Hid (blockI n = 8) from hbl)
  have HC := (show Hid (classI n = 2) from hcl)
  have hcr := run_clear (by omega) hr
  obtain ⟨hpl, hfree⟩ := clear_free hcr
  have HFP := (show Hid (kat kd p = .free) from hfree p (by omega) (by omega))
  have HPL := (show Hid (p < kd.length) from by show _ < _; omega)
  have hp0 : decide ((p : Int) < 0) = false := by rw [decide_eq_false_iff_not]; omega
  have f := h.f
  have hFlt := h.lt
  have HM := (show Hid (RpAt w mb L F ws (kindL kd) (bigL kd) kd) from h)
  have HW := (show Hid (WF kd) from hw)
  have hx := heap_alloc_new w (.cells #[.int .i64 0, .int .i64 0] 34)
  have hK := Keep.alloc [] w (.cells #[.int .i64 0, .int .i64 0] 34)
  obtain ⟨bx, hbx⟩ : ∃ bx, w.heap.size = bx := ⟨_, rfl⟩
  rw [hbx] at hx
  obtain ⟨nn, hnn⟩ : ∃ nn, kd.length = nn := ⟨_, rfl⟩
  have HN := (show Hid (kd.length = nn) from hnn)
  have hn2 : nn ≤ 256 := by rw [← hnn]; exact hw.len2
  have hpnn : p < nn := by omega
  have hbF : bx ∉ F := fun e => by have := hFlt _ e; omega
  obtain ⟨y, hy⟩ : ∃ y : Nat, 64 * p = y := ⟨_, rfl⟩
  have hyi : (p : Int) * 64 = y := by omega
  have hyb : y ≤ 20000 := by omega
  have HLE := (show Hid (y + 8 ≤ 64 * kd.length) from by show _ ≤ _; omega)
  rw [hy]
  have hmk : ∀ w, (Instr.makeSlice 124 (.int .i64 8) (.int .i64 8)).run Tryz.prog w = .ok (.slice (some ⟨w.heap.size, 0, none⟩) 8 8) (w.alloc (.cells (madeCells #[.bool false] 8) 4)) :=
    fun w => run_make_row' (P := Tryz.prog) 124 4 (.bool false) 1 Tryz.underlying124 Tryz.infoBool rfl .i64 .i64 8 (by omega) (by omega) w
  clear hcr hfree
  have HLX := (show Hid (∀ t ys, kat kd t = .small 2 ys → ys.length ≤ 32) from fun t ys e => by
    obtain ⟨_, hl, _⟩ := hw.small t 2 ys e
    have := (sz_facts 2 hc).2.2.2.2.2.1
    show ys.length ≤ 32
    omega)
  clear h hw hcl hp hr hbl hnn hy
  go_enter Tryz.func60, Tryz.ntmps60
  go_wp2_with fail
  refine (rblock_any _ _).mono ?_
  rw [HB.out]
  rintro e w1 ⟨rfl, hK1⟩
  go_wp2_with fail
  refine (rclass_any _ _).mono ?_
  rw [HC.out]
  rintro e w2 ⟨rfl, hK2⟩
  have hK3 := (hK.trans hK1).trans hK2
  have hM2 := HM.out.keep0 hK3
  have hx2 := (hK1.trans hK2).blk hx (by simp)
  have c1 := hM2.c1
  have c3 := hM2.c3
  rw [HN.out] at c1 c3
  have HM2 := (show Hid (RpAt w2 mb L F ws (kindL kd) (bigL kd) kd) from hM2)
  clear hM2 hK1 hK2 hK hx
  go_wp2_with fail
  go_loop [10] (fun v => ∃ j : Nat, v = .int .i64 j ∧ j ≤ nn) (fun v => nn - (intOf v).toNat)
  case atStart => exact ⟨0, rfl, by omega⟩
  case round =>
    obtain ⟨j, rfl, hj⟩ := hrel
    by_cases hlt : j < nn
    · have ck := HM2.out.ck (p := j) (by rw [HN.out]; omega)
      rw [kindL_get] at ck
      have hjn : decide ((j : Int) < (nn : Int)) = true := by rw [decide_eq_true_iff]; omega
      have HF := HPN.out j
      rcases kind_look (kd := kd) 2 j hc with ⟨hk1, _⟩ | ⟨ys, hk1, hh⟩
      · generalize (kat kd j).kind = kv at *
        have hkd : decide (kv = 2 + 1) = false := by rw [decide_eq_false_iff_not]; exact hk1
        have hkd2 : decide (kv = 3) = false := by rw [decide_eq_false_iff_not]; exact hk1
        have hkd3 : kv ≠ 3 := hk1
        clear HF
        go_wp2_with fail
        go_round
        case rel => exact ⟨j + 1, by go_num, by omega⟩
        case measure => simp [intOf]; omega
      · rw [hk1] at ck
        have hck : w2.cell? ⟨L.gk, j, none⟩ = some (.int .i64 3) := ck
        have ct : w2.cell? ⟨L.gt, j, none⟩ = some (.slice (some ⟨L.T j, 0, none⟩) ys.length ys.length) := by
          have := HM2.out.ct (p := j) (by rw [HN.out]; omega)
          rw [hk1] at this; exact this
        have hBR := HM2.out.page j 2 ys hk1
        have HYA := (show Hid (nextR ys (0 : Int).toNat false = -1) from by
          have ha := bool_no HF hh
          unfold allB at ha
          rcases nextR_spec ys false _ 0 rfl with ⟨e, _⟩ | ⟨l, e, _⟩
          · exact e
          · rw [e] at ha; have := of_decide_eq_true ha; omega)
        have hyl := HLX.out j ys hk1
        clear HF hh ck hk1
        go_wp2_with (first | (go_at_call 88; refine (rnext_any (L.T j) ys.length ys.length 0 false ys w2 hBR rfl (by omega) (by omega)).mono ?_; rw [HYA.out]; rintro e w' ⟨rfl, rfl⟩))
        go_round
        case rel => exact ⟨j + 1, by go_num, by omega⟩
        case measure => simp [intOf]; omega
    · obtain rfl : j = nn := by omega
      go_wp2_with fail
      refine (rpages_ok mb L F ws (bigL kd) kd w2 HM2.out HW.out.len1 HW.out.len2).mono ?_
      rw [HN.out]
      rintro e w3 ⟨g, rfl, hBR, hK4, hg⟩
      go_wp2_with fail
      refine (run_dn g j j 1 (takenL kd) w3 hBR (by rw [takenL_length, HN.out]) (by omega) (by omega)).mono ?_
      rw [HR.out]
      rintro e w' ⟨rfl, rfl⟩
      have hx1 := hK4.blk hx2 (by simp)
      have hM4 := HM2.out.keep0 hK4
      have c1 := hM4.c1
      have c3 := hM4.c3
      rw [HN.out] at c1 c3
      have ckp := hM4.ck (p := p) HPL.out
      have fkp := hM4.rowK.free p
      have hM5 := hM4.setK p 3
      have c3b := hM5.c3
      rw [HN.out] at c3b
      have ctp := hM5.ct (p := p) HPL.out
      have ftp := hM5.ft p
      have hx5 := (Keep.setCell (S := F) w3 (.int .i64 3) (a := ⟨L.gk, p, none⟩) f.2.2.1).blk hx1 hbF
      have hK5 := ((hK3.trans hK4).mono (T := F) (by simp)).trans (Keep.setCell w3 (.int .i64 3) (a := ⟨L.gk, p, none⟩) f.2.2.1)
      go_wp2_with fail
      generalize w3.setCell ⟨L.gk, p, none⟩ (.int .i64 3) = w5 at *
      have hM6 := hM5.keep0 (Keep.alloc [] w5 (.cells (madeCells #[.bool false] 8) 4))
      have c3d := hM6.c3
      rw [HN.out] at c3d
      have ctd := hM6.ct (p := p) HPL.out
      have ftd := hM6.ft p
      have hBR0 := BRow.made w5 4 8
      have hq5 : bx < w5.heap.size := lt_of_block hx5
      have hw5 : w.heap.size ≤ w5.heap.size := hK5.size
      have hqF : w5.heap.size ∉ F := fun e => by have := hM5.lt _ e; omega
      have hM7 := (hM6.gain (p := p) (c := 2) (q := w5.heap.size) (xs := offs 8) HPL.out hBR0 hqF).keep0 (Keep.drew [] _)
      rw [offs_length] at hM7
      have hK7 := ((hK5.trans ((Keep.alloc [] w5 (.cells (madeCells #[.bool false] 8) 4)).mono (by simp))).trans (Keep.setCell (S := F) _ (.slice (some ⟨w5.heap.size, 0, none⟩) 8 8) (a := ⟨L.gt, p, none⟩) f.2.2.2.2)).trans (Keep.drew F _)
      have hx7 := (Keep.drew F _).blk ((Keep.setCell (S := F) _ (.slice (some ⟨w5.heap.size, 0, none⟩) 8 8) (a := ⟨L.gt, p, none⟩) f.2.2.2.2).blk ((Keep.alloc F w5 (.cells (madeCells #[.bool false] 8) 4)).blk hx5 hbF) hbF) hbF
      go_region
      generalize ((w5.alloc (.cells (madeCells #[.bool false] 8) 4)).setCell ⟨L.gt, p, none⟩ (.slice (some ⟨w5.heap.size, 0, none⟩) 8 8)).drew = w8 at *
      obtain ⟨q, hq⟩ : ∃ q, w5.heap.size = q := ⟨_, rfl⟩
      rw [hq] at hM7 hqF hq5 hw5
      clear hM6 c3d ctd ftd hM5 c3b ctp ftp hM4 c1 c3 ckp fkp hBR0 hBR hK5 hx5 hq
      have hkat := kat_set_same kd p (.small 2 (offs 8)) HPL.out
      have c3e := hM7.c3
      rw [List.length_set, HN.out] at c3e
      have c3f : w8.cell? ⟨mb, 3, none⟩ = some (.slice (some ⟨L.gt, 0, none⟩) j j) := c3e
      have cte : w8.cell? ⟨L.gt, p, none⟩ = some (.slice (some ⟨q, 0, none⟩) 8 8) := by
        have := hM7.ct (p := p) (by rw [List.length_set]; exact HPL.out)
        rw [hkat] at this
        have e : (L.more p q).T p = q := if_pos rfl
        have e2 : (PK.small 2 (offs 8)).slot ((L.more p q).T p) = .slice (some ⟨q, 0, none⟩) 8 8 := by rw [e]; show Value.slice _ (offs 8).length (offs 8).length = _; rw [offs_length]
        rw [e2] at this
        exact this
      have hBRe : BRow w8 4 q (offs 8) := by
        have := hM7.page p 2 (offs 8) hkat
        have e : (L.more p q).T p = q := if_pos rfl
        rw [e] at this; exact this
      have cxe := hBRe.cell (i := 0) (by rw [offs_length]; omega)
      have fxe := hBRe.free 0
      have HNX := (show Hid (nextR (offs 8) (0 : Int).toNat false = 0) from nextR_is _ _ _ 0 (by omega) (by rw [offs_length]; omega) (offs_get _ _) (fun t a b => by omega))
      have hS9 := hM7.inner (i := 0) (b := true) hkat
      rw [List.set_set, show (L.more p q).T p = q from if_pos rfl] at hS9
      have HS9 := (show Hid (RpAt (w8.setCell ⟨q, 0, none⟩ (.bool true)) mb (L.more p q) (q :: F) ws ((kindL kd).set p 3) (bigL kd) (kd.set p (.small 2 ((offs 8).set 0 true)))) from hS9)
      have hbq : bx ∉ q :: F := fun e => by
        rcases List.mem_cons.1 e with e | e
        · omega
        · exact hbF e
      have hK9 := (hK7.mono (T := q :: F) (fun _ e => List.mem_cons_of_mem _ e)).trans (Keep.setCell w8 (.bool true) (a := ⟨q, 0, none⟩) (by simp))
      have hx9 := (Keep.setCell (S := q :: F) w8 (.bool true) (a := ⟨q, 0, none⟩) (by simp)).blk hx7 hbq
      clear hM7 hS9 c3e
      go_wp2_with (first | (go_at_call 88; refine (rnext_any q 8 8 0 false (offs 8) w8 hBRe (offs_length _) (by omega) (by omega)).mono ?_; rw [HNX.out]; rintro e w' ⟨rfl, rfl⟩))
      generalize w8.setCell ⟨q, 0, none⟩ (.bool true) = w10 at *
      refine (rfill_any mb y 8 (L.more p q) (q :: F) ws _ _ _ w10 HS9.out (by rw [List.length_set]; exact HLE.out) (by rw [List.length_set, HN.out]; exact hn2)).mono ?_
      rintro e w11 ⟨rfl, hR11, hK11⟩
      have hK12 := hK9.trans (hK11.mono (fun k e => by simp at e; subst e; exact List.mem_cons_of_mem _ f.2.1))
      have hx11 := hK11.blk hx9 (by simp; intro e; exact hbF (e ▸ f.2.1))
      have f0 : w11.frozen? ⟨bx, 0, none⟩ = false := by simp [World.frozen?, hx11]
      have f1 : w11.frozen? ⟨bx, 1, none⟩ = false := by simp [World.frozen?, hx11]
      have g0 : w11.cell? ⟨bx, 0, none⟩ = some (.int .i64 0) := by simp [World.cell?, hx11]
      have g1 : w11.cell? ⟨bx, 1, none⟩ = some (.int .i64 0) := by simp [World.cell?, hx11]
      have HKZ := (show Hid (∀ a b, Keep F w ((w11.setCell ⟨bx, 0, none⟩ a).setCell ⟨bx, 1, none⟩ b)) from fun a b => (Keep.two hK12 (by omega)).drop (fun k e hlt => by
        rcases List.mem_cons.1 e with e | e
        · omega
        · exact e))
      have HRZ := (show Hid (∀ u v, RpAt ((w11.setCell ⟨bx, 0, none⟩ u).setCell ⟨bx, 1, none⟩ v) mb (L.more p q) (q :: F) (fill0 ws y 8) ((kindL kd).set p 3) (bigL kd) (kd.set p (.small 2 ((offs 8).set 0 true)))) from fun u v => hR11.keep (S := [bx]) ((Keep.setCell w11 u (a := ⟨bx, 0, none⟩) (by simp)).trans (Keep.setCell _ v (a := ⟨bx, 1, none⟩) (by simp))) (fun k hq e => by simp at e; subst e; exact hbq hq))
      have HKS := (show Hid (kindL (kd.set p (.small 2 ((offs 8).set 0 true))) = (kindL kd).set p 3 ∧ bigL (kd.set p (.small 2 ((offs 8).set 0 true))) = bigL kd) from ⟨by simp [kindL, List.map_set, PK.kind], by
        refine eq_of_getD (by simp [bigL]) (fun t => ?_)
        rw [bigL_get, bigL_get, kat_set _ _ _ _ HPL.out]
        split
        · rename_i e; subst e; rw [HFP.out]; rfl
        · rfl⟩)
      have HGR := (show Hid (Grows w F (q :: F)) from fun k e => by
        rcases List.mem_cons.1 e with e | e
        · right; omega
        · exact .inl e)
      clear hR11 hK11 hK12 HS9 hx9 hK9
      go_wp2
      refine bodyPost_ret (results_cell_row rfl _ _ bx 34 #[.int .i64 y, .int .i64 0] (0, 0) _ rfl (two_set hx11) Tryz.underlying34 rfl (by kernel_rfl)) rfl ?_
      refine ⟨L.more p q, q :: F, rfl, ?_, HKZ.out _ _, HGR.out⟩
      rw [HKS.out.1, HKS.out.2]
      exact HRZ.out _ _

set_option maxRecDepth 100000 in
set_option maxHeartbeats 8000000 in
theorem ralloc_new3 (mb p : Nat) (n : Int) (L : RLay) (F : List Nat) (ws : List Int) (kd : List PK) (w : World) (h : RpAt w mb L F ws (kindL kd) (bigL kd) kd) (hw : WF kd) (hcl : classI n = 3) (hp : nextR (hasL 3 kd) 0 true = -1) (hr : runR (takenL kd) 0 1 = p) :
    Calls Tryz.prog 60 #[.pointer (some ⟨mb, 0, none⟩), .int .i64 n] w fun e w' => ∃ L' F', e = .returned (.agg #[.int .i64 ((64 * p : Nat) : Int), .int .i64 0]) ∧ RpAt w' mb L' F' (fill0 ws (64 * p) 16) (kindL (kd.set p (.small 3 ((offs 4).set 0 true)))) (bigL (kd.set p (.small 3 ((offs 4).set 0 true)))) (kd.set p (.small 3 ((offs 4).set 0 true))) ∧ Keep F w w' ∧ Grows w F F' := by
  have hc : (3 : Nat) < 5 := by omega
  have HPN := (show Hid (∀ t, (kat kd t).has 3 = false) from none_has hp)
  have HR := (show Hid (runR (takenL kd) 0 1 = p) from hr)
  have hbl : blockI n = ((16 : Nat) : Int) := by rw [block_class n 3 hcl]; rfl
  have HB := (show Hid (blockI n = 16) from hbl)
  have HC := (show Hid (classI n = 3) from hcl)
  have hcr := run_clear (by omega) hr
  obtain ⟨hpl, hfree⟩ := clear_free hcr
  have HFP := (show Hid (kat kd p = .free) from hfree p (by omega) (by omega))
  have HPL := (show Hid (p < kd.length) from by show _ < _; omega)
  have hp0 : decide ((p : Int) < 0) = false := by rw [decide_eq_false_iff_not]; omega
  have f := h.f
  have hFlt := h.lt
  have HM := (show Hid (RpAt w mb L F ws (kindL kd) (bigL kd) kd) from h)
  have HW := (show Hid (WF kd) from hw)
  have hx := heap_alloc_new w (.cells #[.int .i64 0, .int .i64 0] 34)
  have hK := Keep.alloc [] w (.cells #[.int .i64 0, .int .i64 0] 34)
  obtain ⟨bx, hbx⟩ : ∃ bx, w.heap.size = bx := ⟨_, rfl⟩
  rw [hbx] at hx
  obtain ⟨nn, hnn⟩ : ∃ nn, kd.length = nn := ⟨_, rfl⟩
  have HN := (show Hid (kd.length = nn) from hnn)
  have hn2 : nn ≤ 256 := by rw [← hnn]; exact hw.len2
  have hpnn : p < nn := by omega
  have hbF : bx ∉ F := fun e => by have := hFlt _ e; omega
  obtain ⟨y, hy⟩ : ∃ y : Nat, 64 * p = y := ⟨_, rfl⟩
  have hyi : (p : Int) * 64 = y := by omega
  have hyb : y ≤ 20000 := by omega
  have HLE := (show Hid (y + 16 ≤ 64 * kd.length) from by show _ ≤ _; omega)
  rw [hy]
  have hmk : ∀ w, (Instr.makeSlice 124 (.int .i64 4) (.int .i64 4)).run Tryz.prog w = .ok (.slice (some ⟨w.heap.size, 0, none⟩) 4 4) (w.alloc (.cells (madeCells #[.bool false] 4) 4)) :=
    fun w => run_make_row' (P := Tryz.prog) 124 4 (.bool false) 1 Tryz.underlying124 Tryz.infoBool rfl .i64 .i64 4 (by omega) (by omega) w
  clear hcr hfree
  have HLX := (show Hid (∀ t ys, kat kd t = .small 3 ys → ys.length ≤ 32) from fun t ys e => by
    obtain ⟨_, hl, _⟩ := hw.small t 3 ys e
    have := (sz_facts 3 hc).2.2.2.2.2.1
    show ys.length ≤ 32
    omega)
  clear h hw hcl hp hr hbl hnn hy
  go_enter Tryz.func60, Tryz.ntmps60
  go_wp2_with fail
  refine (rblock_any _ _).mono ?_
  rw [HB.out]
  rintro e w1 ⟨rfl, hK1⟩
  go_wp2_with fail
  refine (rclass_any _ _).mono ?_
  rw [HC.out]
  rintro e w2 ⟨rfl, hK2⟩
  have hK3 := (hK.trans hK1).trans hK2
  have hM2 := HM.out.keep0 hK3
  have hx2 := (hK1.trans hK2).blk hx (by simp)
  have c1 := hM2.c1
  have c3 := hM2.c3
  rw [HN.out] at c1 c3
  have HM2 := (show Hid (RpAt w2 mb L F ws (kindL kd) (bigL kd) kd) from hM2)
  clear hM2 hK1 hK2 hK hx
  go_wp2_with fail
  go_loop [10] (fun v => ∃ j : Nat, v = .int .i64 j ∧ j ≤ nn) (fun v => nn - (intOf v).toNat)
  case atStart => exact ⟨0, rfl, by omega⟩
  case round =>
    obtain ⟨j, rfl, hj⟩ := hrel
    by_cases hlt : j < nn
    · have ck := HM2.out.ck (p := j) (by rw [HN.out]; omega)
      rw [kindL_get] at ck
      have hjn : decide ((j : Int) < (nn : Int)) = true := by rw [decide_eq_true_iff]; omega
      have HF := HPN.out j
      rcases kind_look (kd := kd) 3 j hc with ⟨hk1, _⟩ | ⟨ys, hk1, hh⟩
      · generalize (kat kd j).kind = kv at *
        have hkd : decide (kv = 3 + 1) = false := by rw [decide_eq_false_iff_not]; exact hk1
        have hkd2 : decide (kv = 4) = false := by rw [decide_eq_false_iff_not]; exact hk1
        have hkd3 : kv ≠ 4 := hk1
        clear HF
        go_wp2_with fail
        go_round
        case rel => exact ⟨j + 1, by go_num, by omega⟩
        case measure => simp [intOf]; omega
      · rw [hk1] at ck
        have hck : w2.cell? ⟨L.gk, j, none⟩ = some (.int .i64 4) := ck
        have ct : w2.cell? ⟨L.gt, j, none⟩ = some (.slice (some ⟨L.T j, 0, none⟩) ys.length ys.length) := by
          have := HM2.out.ct (p := j) (by rw [HN.out]; omega)
          rw [hk1] at this; exact this
        have hBR := HM2.out.page j 3 ys hk1
        have HYA := (show Hid (nextR ys (0 : Int).toNat false = -1) from by
          have ha := bool_no HF hh
          unfold allB at ha
          rcases nextR_spec ys false _ 0 rfl with ⟨e, _⟩ | ⟨l, e, _⟩
          · exact e
          · rw [e] at ha; have := of_decide_eq_true ha; omega)
        have hyl := HLX.out j ys hk1
        clear HF hh ck hk1
        go_wp2_with (first | (go_at_call 88; refine (rnext_any (L.T j) ys.length ys.length 0 false ys w2 hBR rfl (by omega) (by omega)).mono ?_; rw [HYA.out]; rintro e w' ⟨rfl, rfl⟩))
        go_round
        case rel => exact ⟨j + 1, by go_num, by omega⟩
        case measure => simp [intOf]; omega
    · obtain rfl : j = nn := by omega
      go_wp2_with fail
      refine (rpages_ok mb L F ws (bigL kd) kd w2 HM2.out HW.out.len1 HW.out.len2).mono ?_
      rw [HN.out]
      rintro e w3 ⟨g, rfl, hBR, hK4, hg⟩
      go_wp2_with fail
      refine (run_dn g j j 1 (takenL kd) w3 hBR (by rw [takenL_length, HN.out]) (by omega) (by omega)).mono ?_
      rw [HR.out]
      rintro e w' ⟨rfl, rfl⟩
      have hx1 := hK4.blk hx2 (by simp)
      have hM4 := HM2.out.keep0 hK4
      have c1 := hM4.c1
      have c3 := hM4.c3
      rw [HN.out] at c1 c3
      have ckp := hM4.ck (p := p) HPL.out
      have fkp := hM4.rowK.free p
      have hM5 := hM4.setK p 4
      have c3b := hM5.c3
      rw [HN.out] at c3b
      have ctp := hM5.ct (p := p) HPL.out
      have ftp := hM5.ft p
      have hx5 := (Keep.setCell (S := F) w3 (.int .i64 4) (a := ⟨L.gk, p, none⟩) f.2.2.1).blk hx1 hbF
      have hK5 := ((hK3.trans hK4).mono (T := F) (by simp)).trans (Keep.setCell w3 (.int .i64 4) (a := ⟨L.gk, p, none⟩) f.2.2.1)
      go_wp2_with fail
      generalize w3.setCell ⟨L.gk, p, none⟩ (.int .i64 4) = w5 at *
      have hM6 := hM5.keep0 (Keep.alloc [] w5 (.cells (madeCells #[.bool false] 4) 4))
      have c3d := hM6.c3
      rw [HN.out] at c3d
      have ctd := hM6.ct (p := p) HPL.out
      have ftd := hM6.ft p
      have hBR0 := BRow.made w5 4 4
      have hq5 : bx < w5.heap.size := lt_of_block hx5
      have hw5 : w.heap.size ≤ w5.heap.size := hK5.size
      have hqF : w5.heap.size ∉ F := fun e => by have := hM5.lt _ e; omega
      have hM7 := (hM6.gain (p := p) (c := 3) (q := w5.heap.size) (xs := offs 4) HPL.out hBR0 hqF).keep0 (Keep.drew [] _)
      rw [offs_length] at hM7
      have hK7 := ((hK5.trans ((Keep.alloc [] w5 (.cells (madeCells #[.bool false] 4) 4)).mono (by simp))).trans (Keep.setCell (S := F) _ (.slice (some ⟨w5.heap.size, 0, none⟩) 4 4) (a := ⟨L.gt, p, none⟩) f.2.2.2.2)).trans (Keep.drew F _)
      have hx7 := (Keep.drew F _).blk ((Keep.setCell (S := F) _ (.slice (some ⟨w5.heap.size, 0, none⟩) 4 4) (a := ⟨L.gt, p, none⟩) f.2.2.2.2).blk ((Keep.alloc F w5 (.cells (madeCells #[.bool false] 4) 4)).blk hx5 hbF) hbF) hbF
      go_region
      generalize ((w5.alloc (.cells (madeCells #[.bool false] 4) 4)).setCell ⟨L.gt, p, none⟩ (.slice (some ⟨w5.heap.size, 0, none⟩) 4 4)).drew = w8 at *
      obtain ⟨q, hq⟩ : ∃ q, w5.heap.size = q := ⟨_, rfl⟩
      rw [hq] at hM7 hqF hq5 hw5
      clear hM6 c3d ctd ftd hM5 c3b ctp ftp hM4 c1 c3 ckp fkp hBR0 hBR hK5 hx5 hq
      have hkat := kat_set_same kd p (.small 3 (offs 4)) HPL.out
      have c3e := hM7.c3
      rw [List.length_set, HN.out] at c3e
      have c3f : w8.cell? ⟨mb, 3, none⟩ = some (.slice (some ⟨L.gt, 0, none⟩) j j) := c3e
      have cte : w8.cell? ⟨L.gt, p, none⟩ = some (.slice (some ⟨q, 0, none⟩) 4 4) := by
        have := hM7.ct (p := p) (by rw [List.length_set]; exact HPL.out)
        rw [hkat] at this
        have e : (L.more p q).T p = q := if_pos rfl
        have e2 : (PK.small 3 (offs 4)).slot ((L.more p q).T p) = .slice (some ⟨q, 0, none⟩) 4 4 := by rw [e]; show Value.slice _ (offs 4).length (offs 4).length = _; rw [offs_length]
        rw [e2] at this
        exact this
      have hBRe : BRow w8 4 q (offs 4) := by
        have := hM7.page p 3 (offs 4) hkat
        have e : (L.more p q).T p = q := if_pos rfl
        rw [e] at this; exact this
      have cxe := hBRe.cell (i := 0) (by rw [offs_length]; omega)
      have fxe := hBRe.free 0
      have HNX := (show Hid (nextR (offs 4) (0 : Int).toNat false = 0) from nextR_is _ _ _ 0 (by omega) (by rw [offs_length]; omega) (offs_get _ _) (fun t a b => by omega))
      have hS9 := hM7.inner (i := 0) (b := true) hkat
      rw [List.set_set, show (L.more p q).T p = q from if_pos rfl] at hS9
      have HS9 := (show Hid (RpAt (w8.setCell ⟨q, 0, none⟩ (.bool true)) mb (L.more p q) (q :: F) ws ((kindL kd).set p 4) (bigL kd) (kd.set p (.small 3 ((offs 4).set 0 true)))) from hS9)
      have hbq : bx ∉ q :: F := fun e => by
        rcases List.mem_cons.1 e with e | e
        · omega
        · exact hbF e
      have hK9 := (hK7.mono (T := q :: F) (fun _ e => List.mem_cons_of_mem _ e)).trans (Keep.setCell w8 (.bool true) (a := ⟨q, 0, none⟩) (by simp))
      have hx9 := (Keep.setCell (S := q :: F) w8 (.bool true) (a := ⟨q, 0, none⟩) (by simp)).blk hx7 hbq
      clear hM7 hS9 c3e
      go_wp2_with (first | (go_at_call 88; refine (rnext_any q 4 4 0 false (offs 4) w8 hBRe (offs_length _) (by omega) (by omega)).mono ?_; rw [HNX.out]; rintro e w' ⟨rfl, rfl⟩))
      generalize w8.setCell ⟨q, 0, none⟩ (.bool true) = w10 at *
      refine (rfill_any mb y 16 (L.more p q) (q :: F) ws _ _ _ w10 HS9.out (by rw [List.length_set]; exact HLE.out) (by rw [List.length_set, HN.out]; exact hn2)).mono ?_
      rintro e w11 ⟨rfl, hR11, hK11⟩
      have hK12 := hK9.trans (hK11.mono (fun k e => by simp at e; subst e; exact List.mem_cons_of_mem _ f.2.1))
      have hx11 := hK11.blk hx9 (by simp; intro e; exact hbF (e ▸ f.2.1))
      have f0 : w11.frozen? ⟨bx, 0, none⟩ = false := by simp [World.frozen?, hx11]
      have f1 : w11.frozen? ⟨bx, 1, none⟩ = false := by simp [World.frozen?, hx11]
      have g0 : w11.cell? ⟨bx, 0, none⟩ = some (.int .i64 0) := by simp [World.cell?, hx11]
      have g1 : w11.cell? ⟨bx, 1, none⟩ = some (.int .i64 0) := by simp [World.cell?, hx11]
      have HKZ := (show Hid (∀ a b, Keep F w ((w11.setCell ⟨bx, 0, none⟩ a).setCell ⟨bx, 1, none⟩ b)) from fun a b => (Keep.two hK12 (by omega)).drop (fun k e hlt => by
        rcases List.mem_cons.1 e with e | e
        · omega
        · exact e))
      have HRZ := (show Hid (∀ u v, RpAt ((w11.setCell ⟨bx, 0, none⟩ u).setCell ⟨bx, 1, none⟩ v) mb (L.more p q) (q :: F) (fill0 ws y 16) ((kindL kd).set p 4) (bigL kd) (kd.set p (.small 3 ((offs 4).set 0 true)))) from fun u v => hR11.keep (S := [bx]) ((Keep.setCell w11 u (a := ⟨bx, 0, none⟩) (by simp)).trans (Keep.setCell _ v (a := ⟨bx, 1, none⟩) (by simp))) (fun k hq e => by simp at e; subst e; exact hbq hq))
      have HKS := (show Hid (kindL (kd.set p (.small 3 ((offs 4).set 0 true))) = (kindL kd).set p 4 ∧ bigL (kd.set p (.small 3 ((offs 4).set 0 true))) = bigL kd) from ⟨by simp [kindL, List.map_set, PK.kind], by
        refine eq_of_getD (by simp [bigL]) (fun t => ?_)
        rw [bigL_get, bigL_get, kat_set _ _ _ _ HPL.out]
        split
        · rename_i e; subst e; rw [HFP.out]; rfl
        · rfl⟩)
      have HGR := (show Hid (Grows w F (q :: F)) from fun k e => by
        rcases List.mem_cons.1 e with e | e
        · right; omega
        · exact .inl e)
      clear hR11 hK11 hK12 HS9 hx9 hK9
      go_wp2
      refine bodyPost_ret (results_cell_row rfl _ _ bx 34 #[.int .i64 y, .int .i64 0] (0, 0) _ rfl (two_set hx11) Tryz.underlying34 rfl (by kernel_rfl)) rfl ?_
      refine ⟨L.more p q, q :: F, rfl, ?_, HKZ.out _ _, HGR.out⟩
      rw [HKS.out.1, HKS.out.2]
      exact HRZ.out _ _

set_option maxRecDepth 100000 in
set_option maxHeartbeats 8000000 in
theorem ralloc_new4 (mb p : Nat) (n : Int) (L : RLay) (F : List Nat) (ws : List Int) (kd : List PK) (w : World) (h : RpAt w mb L F ws (kindL kd) (bigL kd) kd) (hw : WF kd) (hcl : classI n = 4) (hp : nextR (hasL 4 kd) 0 true = -1) (hr : runR (takenL kd) 0 1 = p) :
    Calls Tryz.prog 60 #[.pointer (some ⟨mb, 0, none⟩), .int .i64 n] w fun e w' => ∃ L' F', e = .returned (.agg #[.int .i64 ((64 * p : Nat) : Int), .int .i64 0]) ∧ RpAt w' mb L' F' (fill0 ws (64 * p) 32) (kindL (kd.set p (.small 4 ((offs 2).set 0 true)))) (bigL (kd.set p (.small 4 ((offs 2).set 0 true)))) (kd.set p (.small 4 ((offs 2).set 0 true))) ∧ Keep F w w' ∧ Grows w F F' := by
  have hc : (4 : Nat) < 5 := by omega
  have HPN := (show Hid (∀ t, (kat kd t).has 4 = false) from none_has hp)
  have HR := (show Hid (runR (takenL kd) 0 1 = p) from hr)
  have hbl : blockI n = ((32 : Nat) : Int) := by rw [block_class n 4 hcl]; rfl
  have HB := (show Hid (blockI n = 32) from hbl)
  have HC := (show Hid (classI n = 4) from hcl)
  have hcr := run_clear (by omega) hr
  obtain ⟨hpl, hfree⟩ := clear_free hcr
  have HFP := (show Hid (kat kd p = .free) from hfree p (by omega) (by omega))
  have HPL := (show Hid (p < kd.length) from by show _ < _; omega)
  have hp0 : decide ((p : Int) < 0) = false := by rw [decide_eq_false_iff_not]; omega
  have f := h.f
  have hFlt := h.lt
  have HM := (show Hid (RpAt w mb L F ws (kindL kd) (bigL kd) kd) from h)
  have HW := (show Hid (WF kd) from hw)
  have hx := heap_alloc_new w (.cells #[.int .i64 0, .int .i64 0] 34)
  have hK := Keep.alloc [] w (.cells #[.int .i64 0, .int .i64 0] 34)
  obtain ⟨bx, hbx⟩ : ∃ bx, w.heap.size = bx := ⟨_, rfl⟩
  rw [hbx] at hx
  obtain ⟨nn, hnn⟩ : ∃ nn, kd.length = nn := ⟨_, rfl⟩
  have HN := (show Hid (kd.length = nn) from hnn)
  have hn2 : nn ≤ 256 := by rw [← hnn]; exact hw.len2
  have hpnn : p < nn := by omega
  have hbF : bx ∉ F := fun e => by have := hFlt _ e; omega
  obtain ⟨y, hy⟩ : ∃ y : Nat, 64 * p = y := ⟨_, rfl⟩
  have hyi : (p : Int) * 64 = y := by omega
  have hyb : y ≤ 20000 := by omega
  have HLE := (show Hid (y + 32 ≤ 64 * kd.length) from by show _ ≤ _; omega)
  rw [hy]
  have hmk : ∀ w, (Instr.makeSlice 124 (.int .i64 2) (.int .i64 2)).run Tryz.prog w = .ok (.slice (some ⟨w.heap.size, 0, none⟩) 2 2) (w.alloc (.cells (madeCells #[.bool false] 2) 4)) :=
    fun w => run_make_row' (P := Tryz.prog) 124 4 (.bool false) 1 Tryz.underlying124 Tryz.infoBool rfl .i64 .i64 2 (by omega) (by omega) w
  clear hcr hfree
  have HLX := (show Hid (∀ t ys, kat kd t = .small 4 ys → ys.length ≤ 32) from fun t ys e => by
    obtain ⟨_, hl, _⟩ := hw.small t 4 ys e
    have := (sz_facts 4 hc).2.2.2.2.2.1
    show ys.length ≤ 32
    omega)
  clear h hw hcl hp hr hbl hnn hy
  go_enter Tryz.func60, Tryz.ntmps60
  go_wp2_with fail
  refine (rblock_any _ _).mono ?_
  rw [HB.out]
  rintro e w1 ⟨rfl, hK1⟩
  go_wp2_with fail
  refine (rclass_any _ _).mono ?_
  rw [HC.out]
  rintro e w2 ⟨rfl, hK2⟩
  have hK3 := (hK.trans hK1).trans hK2
  have hM2 := HM.out.keep0 hK3
  have hx2 := (hK1.trans hK2).blk hx (by simp)
  have c1 := hM2.c1
  have c3 := hM2.c3
  rw [HN.out] at c1 c3
  have HM2 := (show Hid (RpAt w2 mb L F ws (kindL kd) (bigL kd) kd) from hM2)
  clear hM2 hK1 hK2 hK hx
  go_wp2_with fail
  go_loop [10] (fun v => ∃ j : Nat, v = .int .i64 j ∧ j ≤ nn) (fun v => nn - (intOf v).toNat)
  case atStart => exact ⟨0, rfl, by omega⟩
  case round =>
    obtain ⟨j, rfl, hj⟩ := hrel
    by_cases hlt : j < nn
    · have ck := HM2.out.ck (p := j) (by rw [HN.out]; omega)
      rw [kindL_get] at ck
      have hjn : decide ((j : Int) < (nn : Int)) = true := by rw [decide_eq_true_iff]; omega
      have HF := HPN.out j
      rcases kind_look (kd := kd) 4 j hc with ⟨hk1, _⟩ | ⟨ys, hk1, hh⟩
      · generalize (kat kd j).kind = kv at *
        have hkd : decide (kv = 4 + 1) = false := by rw [decide_eq_false_iff_not]; exact hk1
        have hkd2 : decide (kv = 5) = false := by rw [decide_eq_false_iff_not]; exact hk1
        have hkd3 : kv ≠ 5 := hk1
        clear HF
        go_wp2_with fail
        go_round
        case rel => exact ⟨j + 1, by go_num, by omega⟩
        case measure => simp [intOf]; omega
      · rw [hk1] at ck
        have hck : w2.cell? ⟨L.gk, j, none⟩ = some (.int .i64 5) := ck
        have ct : w2.cell? ⟨L.gt, j, none⟩ = some (.slice (some ⟨L.T j, 0, none⟩) ys.length ys.length) := by
          have := HM2.out.ct (p := j) (by rw [HN.out]; omega)
          rw [hk1] at this; exact this
        have hBR := HM2.out.page j 4 ys hk1
        have HYA := (show Hid (nextR ys (0 : Int).toNat false = -1) from by
          have ha := bool_no HF hh
          unfold allB at ha
          rcases nextR_spec ys false _ 0 rfl with ⟨e, _⟩ | ⟨l, e, _⟩
          · exact e
          · rw [e] at ha; have := of_decide_eq_true ha; omega)
        have hyl := HLX.out j ys hk1
        clear HF hh ck hk1
        go_wp2_with (first | (go_at_call 88; refine (rnext_any (L.T j) ys.length ys.length 0 false ys w2 hBR rfl (by omega) (by omega)).mono ?_; rw [HYA.out]; rintro e w' ⟨rfl, rfl⟩))
        go_round
        case rel => exact ⟨j + 1, by go_num, by omega⟩
        case measure => simp [intOf]; omega
    · obtain rfl : j = nn := by omega
      go_wp2_with fail
      refine (rpages_ok mb L F ws (bigL kd) kd w2 HM2.out HW.out.len1 HW.out.len2).mono ?_
      rw [HN.out]
      rintro e w3 ⟨g, rfl, hBR, hK4, hg⟩
      go_wp2_with fail
      refine (run_dn g j j 1 (takenL kd) w3 hBR (by rw [takenL_length, HN.out]) (by omega) (by omega)).mono ?_
      rw [HR.out]
      rintro e w' ⟨rfl, rfl⟩
      have hx1 := hK4.blk hx2 (by simp)
      have hM4 := HM2.out.keep0 hK4
      have c1 := hM4.c1
      have c3 := hM4.c3
      rw [HN.out] at c1 c3
      have ckp := hM4.ck (p := p) HPL.out
      have fkp := hM4.rowK.free p
      have hM5 := hM4.setK p 5
      have c3b := hM5.c3
      rw [HN.out] at c3b
      have ctp := hM5.ct (p := p) HPL.out
      have ftp := hM5.ft p
      have hx5 := (Keep.setCell (S := F) w3 (.int .i64 5) (a := ⟨L.gk, p, none⟩) f.2.2.1).blk hx1 hbF
      have hK5 := ((hK3.trans hK4).mono (T := F) (by simp)).trans (Keep.setCell w3 (.int .i64 5) (a := ⟨L.gk, p, none⟩) f.2.2.1)
      go_wp2_with fail
      generalize w3.setCell ⟨L.gk, p, none⟩ (.int .i64 5) = w5 at *
      have hM6 := hM5.keep0 (Keep.alloc [] w5 (.cells (madeCells #[.bool false] 2) 4))
      have c3d := hM6.c3
      rw [HN.out] at c3d
      have ctd := hM6.ct (p := p) HPL.out
      have ftd := hM6.ft p
      have hBR0 := BRow.made w5 4 2
      have hq5 : bx < w5.heap.size := lt_of_block hx5
      have hw5 : w.heap.size ≤ w5.heap.size := hK5.size
      have hqF : w5.heap.size ∉ F := fun e => by have := hM5.lt _ e; omega
      have hM7 := (hM6.gain (p := p) (c := 4) (q := w5.heap.size) (xs := offs 2) HPL.out hBR0 hqF).keep0 (Keep.drew [] _)
      rw [offs_length] at hM7
      have hK7 := ((hK5.trans ((Keep.alloc [] w5 (.cells (madeCells #[.bool false] 2) 4)).mono (by simp))).trans (Keep.setCell (S := F) _ (.slice (some ⟨w5.heap.size, 0, none⟩) 2 2) (a := ⟨L.gt, p, none⟩) f.2.2.2.2)).trans (Keep.drew F _)
      have hx7 := (Keep.drew F _).blk ((Keep.setCell (S := F) _ (.slice (some ⟨w5.heap.size, 0, none⟩) 2 2) (a := ⟨L.gt, p, none⟩) f.2.2.2.2).blk ((Keep.alloc F w5 (.cells (madeCells #[.bool false] 2) 4)).blk hx5 hbF) hbF) hbF
      go_region
      generalize ((w5.alloc (.cells (madeCells #[.bool false] 2) 4)).setCell ⟨L.gt, p, none⟩ (.slice (some ⟨w5.heap.size, 0, none⟩) 2 2)).drew = w8 at *
      obtain ⟨q, hq⟩ : ∃ q, w5.heap.size = q := ⟨_, rfl⟩
      rw [hq] at hM7 hqF hq5 hw5
      clear hM6 c3d ctd ftd hM5 c3b ctp ftp hM4 c1 c3 ckp fkp hBR0 hBR hK5 hx5 hq
      have hkat := kat_set_same kd p (.small 4 (offs 2)) HPL.out
      have c3e := hM7.c3
      rw [List.length_set, HN.out] at c3e
      have c3f : w8.cell? ⟨mb, 3, none⟩ = some (.slice (some ⟨L.gt, 0, none⟩) j j) := c3e
      have cte : w8.cell? ⟨L.gt, p, none⟩ = some (.slice (some ⟨q, 0, none⟩) 2 2) := by
        have := hM7.ct (p := p) (by rw [List.length_set]; exact HPL.out)
        rw [hkat] at this
        have e : (L.more p q).T p = q := if_pos rfl
        have e2 : (PK.small 4 (offs 2)).slot ((L.more p q).T p) = .slice (some ⟨q, 0, none⟩) 2 2 := by rw [e]; show Value.slice _ (offs 2).length (offs 2).length = _; rw [offs_length]
        rw [e2] at this
        exact this
      have hBRe : BRow w8 4 q (offs 2) := by
        have := hM7.page p 4 (offs 2) hkat
        have e : (L.more p q).T p = q := if_pos rfl
        rw [e] at this; exact this
      have cxe := hBRe.cell (i := 0) (by rw [offs_length]; omega)
      have fxe := hBRe.free 0
      have HNX := (show Hid (nextR (offs 2) (0 : Int).toNat false = 0) from nextR_is _ _ _ 0 (by omega) (by rw [offs_length]; omega) (offs_get _ _) (fun t a b => by omega))
      have hS9 := hM7.inner (i := 0) (b := true) hkat
      rw [List.set_set, show (L.more p q).T p = q from if_pos rfl] at hS9
      have HS9 := (show Hid (RpAt (w8.setCell ⟨q, 0, none⟩ (.bool true)) mb (L.more p q) (q :: F) ws ((kindL kd).set p 5) (bigL kd) (kd.set p (.small 4 ((offs 2).set 0 true)))) from hS9)
      have hbq : bx ∉ q :: F := fun e => by
        rcases List.mem_cons.1 e with e | e
        · omega
        · exact hbF e
      have hK9 := (hK7.mono (T := q :: F) (fun _ e => List.mem_cons_of_mem _ e)).trans (Keep.setCell w8 (.bool true) (a := ⟨q, 0, none⟩) (by simp))
      have hx9 := (Keep.setCell (S := q :: F) w8 (.bool true) (a := ⟨q, 0, none⟩) (by simp)).blk hx7 hbq
      clear hM7 hS9 c3e
      go_wp2_with (first | (go_at_call 88; refine (rnext_any q 2 2 0 false (offs 2) w8 hBRe (offs_length _) (by omega) (by omega)).mono ?_; rw [HNX.out]; rintro e w' ⟨rfl, rfl⟩))
      generalize w8.setCell ⟨q, 0, none⟩ (.bool true) = w10 at *
      refine (rfill_any mb y 32 (L.more p q) (q :: F) ws _ _ _ w10 HS9.out (by rw [List.length_set]; exact HLE.out) (by rw [List.length_set, HN.out]; exact hn2)).mono ?_
      rintro e w11 ⟨rfl, hR11, hK11⟩
      have hK12 := hK9.trans (hK11.mono (fun k e => by simp at e; subst e; exact List.mem_cons_of_mem _ f.2.1))
      have hx11 := hK11.blk hx9 (by simp; intro e; exact hbF (e ▸ f.2.1))
      have f0 : w11.frozen? ⟨bx, 0, none⟩ = false := by simp [World.frozen?, hx11]
      have f1 : w11.frozen? ⟨bx, 1, none⟩ = false := by simp [World.frozen?, hx11]
      have g0 : w11.cell? ⟨bx, 0, none⟩ = some (.int .i64 0) := by simp [World.cell?, hx11]
      have g1 : w11.cell? ⟨bx, 1, none⟩ = some (.int .i64 0) := by simp [World.cell?, hx11]
      have HKZ := (show Hid (∀ a b, Keep F w ((w11.setCell ⟨bx, 0, none⟩ a).setCell ⟨bx, 1, none⟩ b)) from fun a b => (Keep.two hK12 (by omega)).drop (fun k e hlt => by
        rcases List.mem_cons.1 e with e | e
        · omega
        · exact e))
      have HRZ := (show Hid (∀ u v, RpAt ((w11.setCell ⟨bx, 0, none⟩ u).setCell ⟨bx, 1, none⟩ v) mb (L.more p q) (q :: F) (fill0 ws y 32) ((kindL kd).set p 5) (bigL kd) (kd.set p (.small 4 ((offs 2).set 0 true)))) from fun u v => hR11.keep (S := [bx]) ((Keep.setCell w11 u (a := ⟨bx, 0, none⟩) (by simp)).trans (Keep.setCell _ v (a := ⟨bx, 1, none⟩) (by simp))) (fun k hq e => by simp at e; subst e; exact hbq hq))
      have HKS := (show Hid (kindL (kd.set p (.small 4 ((offs 2).set 0 true))) = (kindL kd).set p 5 ∧ bigL (kd.set p (.small 4 ((offs 2).set 0 true))) = bigL kd) from ⟨by simp [kindL, List.map_set, PK.kind], by
        refine eq_of_getD (by simp [bigL]) (fun t => ?_)
        rw [bigL_get, bigL_get, kat_set _ _ _ _ HPL.out]
        split
        · rename_i e; subst e; rw [HFP.out]; rfl
        · rfl⟩)
      have HGR := (show Hid (Grows w F (q :: F)) from fun k e => by
        rcases List.mem_cons.1 e with e | e
        · right; omega
        · exact .inl e)
      clear hR11 hK11 hK12 HS9 hx9 hK9
      go_wp2
      refine bodyPost_ret (results_cell_row rfl _ _ bx 34 #[.int .i64 y, .int .i64 0] (0, 0) _ rfl (two_set hx11) Tryz.underlying34 rfl (by kernel_rfl)) rfl ?_
      refine ⟨L.more p q, q :: F, rfl, ?_, HKZ.out _ _, HGR.out⟩
      rw [HKS.out.1, HKS.out.2]
      exact HRZ.out _ _

theorem ralloc_new (mb p c : Nat) (n : Int) (L : RLay) (F : List Nat) (ws : List Int) (kd : List PK) (w : World) (h : RpAt w mb L F ws (kindL kd) (bigL kd) kd) (hw : WF kd) (hcl : classI n = c) (hc : c < 5) (hp : nextR (hasL c kd) 0 true = -1) (hr : runR (takenL kd) 0 1 = p) :
    Calls Tryz.prog 60 #[.pointer (some ⟨mb, 0, none⟩), .int .i64 n] w fun e w' => ∃ L' F', e = .returned (.agg #[.int .i64 ((64 * p : Nat) : Int), .int .i64 0]) ∧ RpAt w' mb L' F' (fill0 ws (64 * p) (sz c)) (kindL (kd.set p (.small c ((offs (roomOf c)).set 0 true)))) (bigL (kd.set p (.small c ((offs (roomOf c)).set 0 true)))) (kd.set p (.small c ((offs (roomOf c)).set 0 true))) ∧ Keep F w w' ∧ Grows w F F' := by
  rcases (show c = 0 ∨ c = 1 ∨ c = 2 ∨ c = 3 ∨ c = 4 by omega) with rfl | rfl | rfl | rfl | rfl
  · exact ralloc_new0 mb p n L F ws kd w h hw hcl hp hr
  · exact ralloc_new1 mb p n L F ws kd w h hw hcl hp hr
  · exact ralloc_new2 mb p n L F ws kd w h hw hcl hp hr
  · exact ralloc_new3 mb p n L F ws kd w h hw hcl hp hr
  · exact ralloc_new4 mb p n L F ws kd w h hw hcl hp hr
/-- Alloc of the document's own that has room, and that has none. -/
theorem ralloc_yes (mb a b : Nat) (n : Int) (F : List Nat) (ws : List Int) (kd kd' : List PK) (w : World) (h : IsRef w mb F ws kd) (hw : WF kd) (hr : AllocR kd n (some (a, kd'))) (hb : blockI n = b) :
    Calls Tryz.prog 60 #[.pointer (some ⟨mb, 0, none⟩), .int .i64 n] w fun e w' => ∃ F', e = .returned (.agg #[.int .i64 a, .int .i64 0]) ∧ IsRef w' mb F' (fill0 ws a b) kd' ∧ Keep F w w' ∧ Grows w F F' := by
  obtain ⟨L, h⟩ := h
  cases hr with
  | old c p i xs e1 e2 e3 e4 e5 =>
    obtain ⟨hc, _, _⟩ := hw.small p c xs e3
    obtain rfl : b = sz c := by
      have := (sz_facts c hc).1
      rw [block_class n c e1] at hb
      unfold wordsOf at this
      omega
    refine (ralloc_old mb c p i n xs L F ws kd w h hw e1 hc e2 e3 e4 e5).mono ?_
    rintro e w' ⟨rfl, hS, hK⟩
    exact ⟨F, rfl, ⟨L, hS⟩, hK, Grows.refl _ _⟩
  | new c p e1 e2 e3 =>
    obtain ⟨c', hc', hc⟩ : ∃ j : Nat, classI n = j ∧ j < 5 := by
      rcases class_lt n with e | e
      · rw [e1] at e; omega
      · exact e
    obtain rfl : c = c' := by rw [e1] at hc'; omega
    obtain rfl : b = sz c := by
      have := (sz_facts c hc).1
      rw [block_class n c e1] at hb
      unfold wordsOf at this
      omega
    refine (ralloc_new mb p c n L F ws kd w h hw e1 hc e2 e3).mono ?_
    rintro e w' ⟨L', F', rfl, hS, hK, hG⟩
    exact ⟨F', rfl, ⟨L', hS⟩, hK, hG⟩
  | large k p e1 e2 e3 e4 =>
    obtain rfl : b = 64 * k := by rw [block_none n e1, e2] at hb; omega
    refine (ralloc_large mb k p n L F ws kd w h hw e1 e2 e3 e4).mono ?_
    rintro e w' ⟨rfl, hS, hK⟩
    exact ⟨F, rfl, ⟨L, hS⟩, hK, Grows.refl _ _⟩
theorem ralloc_no (mb : Nat) (n : Int) (F : List Nat) (ws : List Int) (kd : List PK) (w : World) (h : IsRef w mb F ws kd) (hw : WF kd) (hr : AllocR kd n none) :
    Calls Tryz.prog 60 #[.pointer (some ⟨mb, 0, none⟩), .int .i64 n] w fun e w' => e = .returned (.agg #[.int .i64 0, .int .i64 3]) ∧ Keep [] w w' := by
  obtain ⟨L, h⟩ := h
  cases hr with
  | full c e1 e2 e3 =>
    obtain ⟨c', hc', hc⟩ : ∃ j : Nat, classI n = j ∧ j < 5 := by
      rcases class_lt n with e | e
      · rw [e1] at e; omega
      · exact e
    obtain rfl : c = c' := by rw [e1] at hc'; omega
    exact ralloc_full mb c n L F ws kd w h hw e1 hc e2 e3
  | over k e1 e2 e3 e4 => exact ralloc_over mb k n L F ws kd w h hw e1 e2 e3 e4

end Go.Proofs.YtamcoejlghfleaaGreat

/-
  The document's own Get of heads.
-/
namespace Go.Proofs.YtamcoejlghfleaaGreat
open Go.RowKit

theorem ref_parts {x : Int} (h0 : 0 ≤ x) : x % 8 = wk x ∧ (x / 8 % 2 == 1) = wf x ∧ x / 16 % 4096 = wc x ∧ x / 65536 = wl x := by
  unfold wk wc wl wf
  rw [Int.tmod_eq_emod_of_nonneg (by omega), Int.tmod_eq_emod_of_nonneg (by omega), Int.tmod_eq_emod_of_nonneg (by omega), Int.tdiv_eq_ediv_of_nonneg (by omega), Int.tdiv_eq_ediv_of_nonneg (by omega)]
  refine ⟨rfl, ?_, by omega, rfl⟩
  rw [Bool.eq_iff_iff]; simp; omega

/-- Five cells of a block. -/
theorem five_free {w : World} {b : Nat} {t : TypeId} {a0 a1 a2 a3 a4 : Value} (h : w.heap[b]? = some (.cells #[a0, a1, a2, a3, a4] t (0, 0))) :
    (w.frozen? ⟨b, 0, none⟩ = false ∧ w.frozen? ⟨b, 1, none⟩ = false ∧ w.frozen? ⟨b, 2, none⟩ = false ∧ w.frozen? ⟨b, 3, none⟩ = false ∧ w.frozen? ⟨b, 4, none⟩ = false) ∧
    w.cell? ⟨b, 0, none⟩ = some a0 ∧ w.cell? ⟨b, 1, none⟩ = some a1 ∧ w.cell? ⟨b, 2, none⟩ = some a2 ∧ w.cell? ⟨b, 3, none⟩ = some a3 ∧ w.cell? ⟨b, 4, none⟩ = some a4 := by
  refine ⟨⟨?_, ?_, ?_, ?_, ?_⟩, ?_, ?_, ?_, ?_, ?_⟩ <;> simp [World.frozen?, World.cell?, h]
theorem five_put {w : World} {b : Nat} {t : TypeId} {a0 a1 a2 a3 a4 : Value} (h : w.heap[b]? = some (.cells #[a0, a1, a2, a3, a4] t (0, 0))) (b0 b1 b2 b3 b4 : Value) :
    (((((w.setCell ⟨b, 0, none⟩ b0).setCell ⟨b, 1, none⟩ b1).setCell ⟨b, 2, none⟩ b2).setCell ⟨b, 3, none⟩ b3).setCell ⟨b, 4, none⟩ b4).heap[b]? = some (.cells #[b0, b1, b2, b3, b4] t (0, 0)) ∧
      Keep [b] w (((((w.setCell ⟨b, 0, none⟩ b0).setCell ⟨b, 1, none⟩ b1).setCell ⟨b, 2, none⟩ b2).setCell ⟨b, 3, none⟩ b3).setCell ⟨b, 4, none⟩ b4) := by
  have z1 := heap_setCell_same w b 0 _ _ b0 h
  have z2 := heap_setCell_same _ b 1 _ _ b1 z1
  have z3 := heap_setCell_same _ b 2 _ _ b2 z2
  have z4 := heap_setCell_same _ b 3 _ _ b3 z3
  have z5 := heap_setCell_same _ b 4 _ _ b4 z4
  exact ⟨by simpa using z5, ((((Keep.setCell _ _ (by simp)).trans (Keep.setCell _ _ (by simp))).trans (Keep.setCell _ _ (by simp))).trans (Keep.setCell _ _ (by simp))).trans (Keep.setCell _ _ (by simp))⟩

set_option maxRecDepth 100000 in
set_option maxHeartbeats 800000 in
theorem rgeth_far (x : Int) (w : World) (h : x < 0 ∨ 67108864 ≤ x) : Calls Tryz.prog 68 #[.int .i64 x] w fun e w' => e = .returned (.agg #[.int .i64 0, .int .i64 0, .int .i64 0, .bool false, .bool false]) ∧ Keep [] w w' := by
  have hx := heap_alloc_new w (.cells #[.int .i64 0, .int .i64 0, .int .i64 0, .bool false, .bool false] 79)
  have hK := Keep.alloc [] w (.cells #[.int .i64 0, .int .i64 0, .int .i64 0, .bool false, .bool false] 79)
  obtain ⟨⟨f0, f1, f2, f3, f4⟩, d0, d1, d2, d3, d4⟩ := five_free hx
  obtain ⟨z, hk⟩ := five_put hx (.int .i64 0) (.int .i64 0) (.int .i64 0) (.bool false) (.bool false)
  have hd : (x < 0 ∧ decide (x < 0) = true) ∨ (decide (x < 0) = false ∧ 67108864 ≤ x) := by
    by_cases h0 : x < 0
    · exact .inl ⟨h0, decide_eq_true h0⟩
    · exact .inr ⟨decide_eq_false h0, by omega⟩
  clear h
  rcases hd with ⟨h1, h2⟩ | ⟨h1, h2⟩
  all_goals
    go_enter Tryz.func68, Tryz.ntmps68
    go_upto_region 2 with fail
    generalize w.alloc (.cells #[.int .i64 0, .int .i64 0, .int .i64 0, .bool false, .bool false] 79) = w1 at *
    go_wp2_with fail
    refine bodyPost_ret (results_cell_row rfl _ _ w.heap.size 79 #[.int .i64 0, .int .i64 0, .int .i64 0, .bool false, .bool false] (0, 0) _ rfl z Tryz.underlying79 rfl (by kernel_rfl)) rfl ?_
    exact ⟨rfl, ((hK.mono (by simp)).trans hk).drop (by simp)⟩

set_option maxRecDepth 100000 in
set_option maxHeartbeats 800000 in
theorem rgeth_near_no (x k c l : Int) (f : Bool) (w : World) (h0 : 0 ≤ x) (h1 : x < 67108864) (ek : x % 8 = k) (ef : (x / 8 % 2 == 1) = f) (ec : x / 16 % 4096 = c) (el : x / 65536 = l) (hm : mayH k c l f = false) :
    Calls Tryz.prog 68 #[.int .i64 x] w fun e w' => e = .returned (.agg #[.int .i64 0, .int .i64 0, .int .i64 0, .bool false, .bool false]) ∧ Keep [] w w' := by
  have q0 : decide (x < 0) = false := decide_eq_false (by omega)
  have q1 : decide (67108864 ≤ x) = false := decide_eq_false (by omega)
  have HM := (show Hid (mayH k c l f = false) from hm)
  have HE := (show Hid (x % 8 = k ∧ (x / 8 % 2 == 1) = f ∧ x / 16 % 4096 = c ∧ x / 65536 = l) from ⟨ek, ef, ec, el⟩)
  clear hm ek ef ec el
  have hK1 := (Keep.alloc [] w (.cells #[.int .i64 0, .int .i64 0, .int .i64 0, .bool false, .bool false] 79)).trans (Keep.alloc [] (w.alloc (.cells #[.int .i64 0, .int .i64 0, .int .i64 0, .bool false, .bool false] 79)) (.cells #[.int .i64 k, .int .i64 c, .int .i64 l, .bool f] 67))
  have hx1 := (Keep.alloc [] (w.alloc (.cells #[.int .i64 0, .int .i64 0, .int .i64 0, .bool false, .bool false] 79)) (.cells #[.int .i64 k, .int .i64 c, .int .i64 l, .bool f] 67)).blk (heap_alloc_new w (.cells #[.int .i64 0, .int .i64 0, .int .i64 0, .bool false, .bool false] 79)) (by simp)
  have hx2 := second_block w (.cells #[.int .i64 0, .int .i64 0, .int .i64 0, .bool false, .bool false] 79) #[.int .i64 k, .int .i64 c, .int .i64 l, .bool f] 67
  go_enter Tryz.func68, Tryz.ntmps68
  go_upto_region 4 with fail
  rw [HE.out.1, HE.out.2.1, HE.out.2.2.1, HE.out.2.2.2]
  generalize (w.alloc (.cells #[.int .i64 0, .int .i64 0, .int .i64 0, .bool false, .bool false] 79)).alloc (.cells #[.int .i64 k, .int .i64 c, .int .i64 l, .bool f] 67) = w2 at *
  obtain ⟨bx, hbx⟩ : ∃ bx, w.heap.size = bx := ⟨_, rfl⟩
  rw [hbx] at hx1 hx2 ⊢
  obtain ⟨bz, hbz⟩ : ∃ b, bx + 1 = b := ⟨_, rfl⟩
  rw [hbz] at hx2 ⊢
  have HBX := (show Hid (w.heap.size = bx) from hbx)
  have hne : bx ≠ bz := by omega
  clear hbx hbz
  obtain ⟨c0, c1, c2, c3⟩ := four_cells hx2
  go_upto_region 5 with (first | (go_at_call 82; refine (rmayh_any k c l f _).mono ?_; rw [HM.out]; rintro e w3 ⟨rfl, hK2⟩; have hx3 := hK2.blk hx1 (by simp); obtain ⟨⟨f0, f1, f2, f3, f4⟩, d0, d1, d2, d3, d4⟩ := five_free hx3; have hx4 := hK2.blk hx2 (by simp); obtain ⟨g0, g1, g2, g3⟩ := four_cells hx4))
  go_wp2_with fail
  obtain ⟨z, hk4⟩ := five_put hx3 (.int .i64 0) (.int .i64 0) (.int .i64 0) (.bool false) (.bool false)
  refine bodyPost_ret (results_cell_row rfl _ _ bx 79 #[.int .i64 0, .int .i64 0, .int .i64 0, .bool false, .bool false] (0, 0) _ rfl z Tryz.underlying79 rfl (by kernel_rfl)) rfl ?_
  refine ⟨rfl, (((hK1.trans hK2).mono (T := [bx]) (by simp)).trans hk4).drop ?_⟩
  have := HBX.out
  simp; omega

set_option maxRecDepth 100000 in
set_option maxHeartbeats 800000 in
theorem rgeth_near_yes (x k c l : Int) (f : Bool) (w : World) (h0 : 0 ≤ x) (h1 : x < 67108864) (ek : x % 8 = k) (ef : (x / 8 % 2 == 1) = f) (ec : x / 16 % 4096 = c) (el : x / 65536 = l) (hm : mayH k c l f = true) :
    Calls Tryz.prog 68 #[.int .i64 x] w fun e w' => e = .returned (.agg #[.int .i64 k, .int .i64 c, .int .i64 l, .bool f, .bool true]) ∧ Keep [] w w' := by
  have q0 : decide (x < 0) = false := decide_eq_false (by omega)
  have q1 : decide (67108864 ≤ x) = false := decide_eq_false (by omega)
  have HM := (show Hid (mayH k c l f = true) from hm)
  have HE := (show Hid (x % 8 = k ∧ (x / 8 % 2 == 1) = f ∧ x / 16 % 4096 = c ∧ x / 65536 = l) from ⟨ek, ef, ec, el⟩)
  clear hm ek ef ec el
  have hK1 := (Keep.alloc [] w (.cells #[.int .i64 0, .int .i64 0, .int .i64 0, .bool false, .bool false] 79)).trans (Keep.alloc [] (w.alloc (.cells #[.int .i64 0, .int .i64 0, .int .i64 0, .bool false, .bool false] 79)) (.cells #[.int .i64 k, .int .i64 c, .int .i64 l, .bool f] 67))
  have hx1 := (Keep.alloc [] (w.alloc (.cells #[.int .i64 0, .int .i64 0, .int .i64 0, .bool false, .bool false] 79)) (.cells #[.int .i64 k, .int .i64 c, .int .i64 l, .bool f] 67)).blk (heap_alloc_new w (.cells #[.int .i64 0, .int .i64 0, .int .i64 0, .bool false, .bool false] 79)) (by simp)
  have hx2 := second_block w (.cells #[.int .i64 0, .int .i64 0, .int .i64 0, .bool false, .bool false] 79) #[.int .i64 k, .int .i64 c, .int .i64 l, .bool f] 67
  go_enter Tryz.func68, Tryz.ntmps68
  go_upto_region 4 with fail
  rw [HE.out.1, HE.out.2.1, HE.out.2.2.1, HE.out.2.2.2]
  generalize (w.alloc (.cells #[.int .i64 0, .int .i64 0, .int .i64 0, .bool false, .bool false] 79)).alloc (.cells #[.int .i64 k, .int .i64 c, .int .i64 l, .bool f] 67) = w2 at *
  obtain ⟨bx, hbx⟩ : ∃ bx, w.heap.size = bx := ⟨_, rfl⟩
  rw [hbx] at hx1 hx2 ⊢
  obtain ⟨bz, hbz⟩ : ∃ b, bx + 1 = b := ⟨_, rfl⟩
  rw [hbz] at hx2 ⊢
  have HBX := (show Hid (w.heap.size = bx) from hbx)
  have hne : bx ≠ bz := by omega
  clear hbx hbz
  obtain ⟨c0, c1, c2, c3⟩ := four_cells hx2
  go_upto_region 6 with (first | (go_at_call 82; refine (rmayh_any k c l f _).mono ?_; rw [HM.out]; rintro e w3 ⟨rfl, hK2⟩; have hx3 := hK2.blk hx1 (by simp); obtain ⟨⟨f0, f1, f2, f3, f4⟩, d0, d1, d2, d3, d4⟩ := five_free hx3; have hx4 := hK2.blk hx2 (by simp); obtain ⟨g0, g1, g2, g3⟩ := four_cells hx4))
  go_wp2_with fail
  obtain ⟨z, hk4⟩ := five_put hx3 (.int .i64 k) (.int .i64 c) (.int .i64 l) (.bool f) (.bool true)
  refine bodyPost_ret (results_cell_row rfl _ _ bx 79 #[.int .i64 k, .int .i64 c, .int .i64 l, .bool f, .bool true] (0, 0) _ rfl z Tryz.underlying79 rfl (by kernel_rfl)) rfl ?_
  refine ⟨rfl, (((hK1.trans hK2).mono (T := [bx]) (by simp)).trans hk4).drop ?_⟩
  have := HBX.out
  simp; omega

theorem rgeth_yes (x k c l : Int) (f : Bool) (w : World) (h : Word x k c l f) :
    Calls Tryz.prog 68 #[.int .i64 x] w fun e w' => e = .returned (.agg #[.int .i64 k, .int .i64 c, .int .i64 l, .bool f, .bool true]) ∧ Keep [] w w' := by
  obtain ⟨h1, h2, h3, h4, h5, h6⟩ := h.parts
  obtain ⟨p1, p2, p3, p4⟩ := ref_parts (show 0 ≤ x by omega)
  exact rgeth_near_yes x k c l f w (by omega) h2 (p1.trans h3) (p2.trans h6) (p3.trans h4) (p4.trans h5) h.1
theorem rgeth_no (x : Int) (w : World) (h : ∀ k c l f, ¬ Word x k c l f) :
    Calls Tryz.prog 68 #[.int .i64 x] w fun e w' => e = .returned (.agg #[.int .i64 0, .int .i64 0, .int .i64 0, .bool false, .bool false]) ∧ Keep [] w w' := by
  by_cases hx : x < 0 ∨ 67108864 ≤ x
  · exact rgeth_far x w hx
  · obtain ⟨p1, p2, p3, p4⟩ := ref_parts (show 0 ≤ x by omega)
    refine rgeth_near_no x _ _ _ _ w (by omega) (by omega) p1 p2 p3 p4 ?_
    rw [Bool.eq_false_iff]
    exact fun hm => h _ _ _ _ (word_of hm)

end Go.Proofs.YtamcoejlghfleaaGreat

/-
  The document's own heap in memory: its block, its classes and its space; what its calls answer and leave.
-/
namespace Go.Proofs.YtamcoejlghfleaaGreat
open Go.RowKit

/-- Block tb is a heap of the document whose classes lie at va; all its blocks are of F. -/
structure RTabAt (w : World) (tb mb : Nat) (va : Option Addr) (vc : Nat) (F : List Nat) (cs : List CV) : Prop where
  head : w.heap[tb]? = some (.cells #[.pointer (some ⟨mb, 0, none⟩), .slice va cs.length vc] 98 (0, 0))
  own : w.ownsRow 0 135 2 (.slice va cs.length vc) cs.length (flat cs)
  vF : ∀ a, va = some a → a.block ∈ F ∧ a.block ≠ tb
  tF : tb ∈ F
  each : ∀ (i : Nat) (c : CV), cs[i]? = some c → IntsAt w c.ao c.L ∧ (c.ao = none → c.cp = 0) ∧ c.L.length ≤ 1000000 ∧ (∀ a, c.ao = some a → a.block ∈ F ∧ a.block ≠ tb ∧ ∀ b, va = some b → b.block ≠ a.block)
  lt : ∀ k, k ∈ F → k < w.heap.size
def IsRTab (w : World) (tb mb : Nat) (F : List Nat) (ds : List (Int × List Int)) : Prop := ∃ va vc cs, RTabAt w tb mb va vc F cs ∧ ds = cs.map CV.d

theorem RTabAt.keep {S F : List Nat} {w w' : World} {tb mb vc : Nat} {va : Option Addr} {cs : List CV} (h : RTabAt w tb mb va vc F cs) (K : Keep S w w') (hS : ∀ k, k ∈ F → k ∉ S) : RTabAt w' tb mb va vc F cs :=
  { h with
    head := K.blk h.head (hS _ h.tF)
    own := by
      refine ⟨h.own.1, ?_⟩
      rcases h.own.2 with h1 | ⟨g, cap, cur, h1, h2, h3, h4⟩
      · exact .inl h1
      · refine .inr ⟨g, cap, cur, h1, h2, K.blk h3 (hS _ ?_), h4⟩
        cases h1; exact (h.vF _ rfl).1
    each := fun i c hc => by
      obtain ⟨h1, h2, h3, h4⟩ := h.each i c hc
      exact ⟨h1.keep K (fun _ a e => hS _ (h4 a e).1), h2, h3, h4⟩
    lt := fun k hk => Nat.lt_of_lt_of_le (h.lt k hk) K.size }
theorem IsRTab.keep {S F : List Nat} {w w' : World} {tb mb : Nat} {ds : List (Int × List Int)} (h : IsRTab w tb mb F ds) (K : Keep S w w') (hS : ∀ k, k ∈ F → k ∉ S) : IsRTab w' tb mb F ds := by
  obtain ⟨va, vc, cs, h, e⟩ := h; exact ⟨va, vc, cs, h.keep K hS, e⟩
theorem RTabAt.cell {F : List Nat} {w : World} {tb mb vc : Nat} {va : Option Addr} {cs : List CV} (h : RTabAt w tb mb va vc F cs) : w.cell? ⟨tb, 1, none⟩ = some (.slice va cs.length vc) := by simp [World.cell?, h.head]
theorem RTabAt.free {F : List Nat} {w : World} {tb mb vc : Nat} {va : Option Addr} {cs : List CV} (h : RTabAt w tb mb va vc F cs) : w.frozen? ⟨tb, 1, none⟩ = false := by simp [World.frozen?, h.head]

/-- One class more. -/
theorem RTabAt.added {F : List Nat} {w w4 : World} {tb mb vc g cap B lc : Nat} {va la : Option Addr} {cs : List CV} {f : Int} {L : List Int} {o : Obj} (h : RTabAt w tb mb va vc F cs) (hB : ∀ k, k ∈ F → k < B)
    (hI : IntsAt w la L) (hlc : la = none → lc = 0) (hL : L.length ≤ 1000000) (hla : ∀ a, la = some a → B ≤ a.block ∧ a.block < w.heap.size) (hBw : B ≤ w.heap.size)
    (hown : w4.ownsRow 0 135 2 (.slice (some ⟨g, 0, none⟩) (cs.length + 1) cap) (cs.length + 1) (flat cs ++ [.int .i64 f, .slice la L.length lc]))
    (hg : (w.alloc o).grownBy w4 (Value.slice va cs.length vc).ownBlock) (hat : (Value.slice va cs.length vc).ownBlock = some g ∨ g = w.heap.size + 1) (hlt : g < w4.heap.size) :
    RTabAt (w4.setCell ⟨tb, 1, none⟩ (.slice (some ⟨g, 0, none⟩) (cs.length + 1) cap)) tb mb (some ⟨g, 0, none⟩) cap (g :: (la.toList.map (·.block) ++ F)) (cs ++ [⟨f, la, lc, L⟩]) ∧
      Keep F w (w4.setCell ⟨tb, 1, none⟩ (.slice (some ⟨g, 0, none⟩) (cs.length + 1) cap)) := by
  have htb := hB _ h.tF
  have own : ∀ k, (Value.slice va cs.length vc).ownBlock = some k → k ∈ F ∧ k ≠ tb ∧ ∃ a, va = some a ∧ a.block = k := by
    intro k hk
    cases va with
    | none => simp [Value.ownBlock] at hk
    | some a => simp [Value.ownBlock] at hk; subst hk; exact ⟨(h.vF a rfl).1, (h.vF a rfl).2, a, rfl, rfl⟩
  have gtb : g ≠ tb := by
    rcases hat with e | e
    · exact (own g e).2.1
    · omega
  have K1 : Keep F w w4 := ⟨hg.os, hg.tape, hg.output, Nat.le_trans (by simp) hg.size, fun k hk hS =>
    (hg.block k (by simp; omega) (fun e => hS (own k e.symm).1)).trans (Below.heap_alloc _ _ _ hk)⟩
  have K0 : Keep [] w (w.alloc o) := Keep.alloc [] w o
  have K2 : Keep [tb] w4 (w4.setCell ⟨tb, 1, none⟩ (.slice (some ⟨g, 0, none⟩) (cs.length + 1) cap)) := Keep.setCell _ _ (by simp)
  have ints : ∀ (ao : Option Addr) (M : List Int), IntsAt w ao M → (∀ a, ao = some a → a.block ≠ tb ∧ (Value.slice va cs.length vc).ownBlock ≠ some a.block) → IntsAt (w4.setCell ⟨tb, 1, none⟩ (.slice (some ⟨g, 0, none⟩) (cs.length + 1) cap)) ao M := by
    intro ao M hM ha
    refine ⟨fun h0 => ?_, hM.low, hM.high⟩
    obtain ⟨b, off, rfl, hb, hc⟩ := hM.cells h0
    obtain ⟨h1, h2⟩ := ha _ rfl
    have e : (w4.setCell ⟨tb, 1, none⟩ (.slice (some ⟨g, 0, none⟩) (cs.length + 1) cap)).heap[b]? = w.heap[b]? :=
      (K2.block b (Nat.lt_of_lt_of_le hb K1.size) (by simpa using h1)).trans ((hg.block b (by simp; omega) (fun e => h2 e.symm)).trans (Below.heap_alloc _ _ _ hb))
    exact ⟨b, off, rfl, Nat.lt_of_lt_of_le (Nat.lt_of_lt_of_le hb K1.size) K2.size, fun i hi => (World.cell?_of_block (w := w) e).trans (hc i hi)⟩
  have far : ∀ k, B ≤ k → (Value.slice va cs.length vc).ownBlock ≠ some k := fun k hk e => by have := hB _ (own k e).1; omega
  have hl : (cs ++ [(⟨f, la, lc, L⟩ : CV)]).length = cs.length + 1 := by simp
  have htbw : w4.heap[tb]? = some (.cells #[.pointer (some ⟨mb, 0, none⟩), .slice va cs.length vc] 98 (0, 0)) := by
    rw [← h.head]
    exact (hg.block tb (by simp; omega) (fun e => (own tb e.symm).2.1 rfl)).trans (Below.heap_alloc _ _ _ (by omega))
  refine ⟨⟨?_, ?_, ?_, ?_, ?_, ?_⟩, K1.trans (K2.mono (by simpa using h.tF))⟩
  · rw [hl]
    have := heap_setCell_same w4 tb 1 _ _ (.slice (some ⟨g, 0, none⟩) (cs.length + 1) cap) htbw
    simpa using this
  · rw [hl, flat_app, flat_one]
    refine ⟨hown.1, ?_⟩
    rcases hown.2 with ⟨h1, _⟩ | ⟨g', cap', cur, h1, h2, h3, h4⟩
    · cases h1
    · cases h1
      exact .inr ⟨g, cap, cur, rfl, h2, K2.blk h3 (by simpa using gtb), h4⟩
  · intro a e; cases e; exact ⟨by simp, gtb⟩
  · simp [h.tF]
  · intro i c hc
    rcases Nat.lt_trichotomy i cs.length with hi | hi | hi
    · rw [List.getElem?_append_left hi] at hc
      obtain ⟨h1, h2, h3, h4⟩ := h.each i c hc
      have h5 : ∀ a, c.ao = some a → (Value.slice va cs.length vc).ownBlock ≠ some a.block := fun a e e' => by
        obtain ⟨b, e1, e2⟩ := (own _ e').2.2
        exact (h4 a e).2.2 b e1 e2
      refine ⟨ints _ _ h1 (fun a e => ⟨(h4 a e).2.1, h5 a e⟩), h2, h3, fun a e => ⟨by simp [(h4 a e).1], (h4 a e).2.1, fun b eb => ?_⟩⟩
      cases eb
      show g ≠ a.block
      rcases hat with e' | e'
      · intro eg; exact h5 a e (by rw [e', eg])
      · have := hB _ (h4 a e).1; omega
    · subst hi
      have : c = ⟨f, la, lc, L⟩ := by simpa using hc.symm
      subst this
      refine ⟨ints _ _ hI (fun a e => ⟨by have := (hla a e).1; omega, far _ (hla a e).1⟩), hlc, hL, fun a e => ⟨?_, by have := (hla a e).1; omega, fun b eb => ?_⟩⟩
      · have e' : la = some a := e
        simp [e']
      · cases eb
        show g ≠ a.block
        have := hla a e
        rcases hat with e' | e'
        · intro eg; exact far a.block this.1 (by rw [e', eg])
        · omega
    · rw [List.getElem?_eq_none (by simp; omega)] at hc; cases hc
  · intro k hk
    have hs := K2.size
    have hs1 := K1.size
    simp at hk
    rcases hk with rfl | ⟨a, e, rfl⟩ | hk
    · omega
    · have := (hla a e).2; omega
    · have := hB k hk; omega
theorem IsRTab.lt {F : List Nat} {w : World} {tb mb : Nat} {ds : List (Int × List Int)} (h : IsRTab w tb mb F ds) : ∀ k, k ∈ F → k < w.heap.size := by
  obtain ⟨va, vc, cs, h, e⟩ := h; exact h.lt
theorem IsRTab.mem {F : List Nat} {w : World} {tb mb : Nat} {ds : List (Int × List Int)} (h : IsRTab w tb mb F ds) : tb ∈ F := by
  obtain ⟨va, vc, cs, h, e⟩ := h; exact h.tF


def rspaceA (mb : Nat) (ws : List Int) (kd : List PK) : Asn where
  at' w F := IsRef w mb F ws kd
  keep := fun h K hS => h.keep K hS
  lt := fun h => h.lt
def rtabA (hb mb : Nat) (ds : List (Int × List Int)) : Asn where
  at' w F := IsRTab w hb mb F ds
  keep := fun h K hS => h.keep K hS
  lt := fun h => h.lt
def rrawA (hb mb : Nat) (ws : List Int) (kd : List PK) (ds : List (Int × List Int)) : Asn := (rtabA hb mb ds).star (rspaceA mb ws kd)
/-- Block hb is a heap of the document. -/
def rheapA (hb : Nat) (ws : List Int) (kd : List PK) (ds : List (Int × List Int)) : Asn where
  at' w F := (∃ mb, (rrawA hb mb ws kd ds).at' w F) ∧ Fine ws kd ds
  keep := fun h K hS => by
    obtain ⟨⟨mb, h1⟩, h2⟩ := h
    exact ⟨⟨mb, (rrawA hb mb ws kd ds).keep h1 K hS⟩, h2⟩
  lt := fun h => by
    obtain ⟨⟨mb, h1⟩, h2⟩ := h
    exact (rrawA hb mb ws kd ds).lt h1
section
variable {w0 w : World} {F0 : List Nat} {hb mb : Nat} {ws : List Int} {kd : List PK} {ds : List (Int × List Int)}
theorem Has.rfine (h : Has w0 F0 (rheapA hb ws kd ds) w) : Fine ws kd ds := h.fact (fun _ h => h.2)
theorem Has.rraw (h : Has w0 F0 (rheapA hb ws kd ds) w) : ∃ mb, Has w0 F0 (rrawA hb mb ws kd ds) w := by
  obtain ⟨F, ⟨⟨mb, h1⟩, h2⟩, u⟩ := h
  exact ⟨mb, F, h1, u⟩
theorem Has.rheap (h : Has w0 F0 (rrawA hb mb ws kd ds) w) (hf : Fine ws kd ds) : Has w0 F0 (rheapA hb ws kd ds) w := h.map (fun _ h => ⟨⟨mb, h⟩, hf⟩)
theorem Has.rspace (h : Has w0 F0 (rrawA hb mb ws kd ds) w) : ∃ F, IsRef w mb F ws kd := h.fact (fun _ h => by obtain ⟨F1, F2, _, h1, h2, _⟩ := h; exact ⟨F2, h2⟩)
theorem Has.rtab (h : Has w0 F0 (rrawA hb mb ws kd ds) w) : ∃ F, IsRTab w hb mb F ds := h.fact (fun _ h => by obtain ⟨F1, F2, _, h1, h2, _⟩ := h; exact ⟨F1, h1⟩)
/-- The cells that are read: the space, the classes, the words. -/
theorem Has.rcells (h : Has w0 F0 (rrawA hb mb ws kd ds) w) : w.cell? ⟨hb, 0, none⟩ = some (.pointer (some ⟨mb, 0, none⟩)) ∧ (∃ va vc, w.cell? ⟨hb, 1, none⟩ = some (.slice va ds.length vc)) ∧
    (∃ gw, w.cell? ⟨mb, 0, none⟩ = some (.slice (some ⟨gw, 0, none⟩) (64 * kd.length) (64 * kd.length)) ∧ ∀ i, i < 64 * kd.length → w.cell? ⟨gw, i, none⟩ = some (.int .i64 (ws[i]?.getD 0)) ∧ w.frozen? ⟨gw, i, none⟩ = false) ∧ ws.length = 64 * kd.length := by
  refine h.fact (fun _ h => ?_)
  obtain ⟨F1, F2, _, ⟨va, vc, cs, h1, rfl⟩, ⟨L, h2⟩, _⟩ := h
  refine ⟨by simp [World.cell?, h1.head], ⟨va, vc, by rw [List.length_map]; exact h1.cell⟩, ⟨L.gw, h2.c0, fun i hi => ⟨h2.cw hi, h2.rowW.free i⟩⟩, h2.lw⟩
/-- A class, as it is read. -/
theorem Has.rclass (h : Has w0 F0 (rrawA hb mb ws kd ds) w) {i : Nat} {l : Int} {L : List Int} (hi : ds[i]? = some (l, L)) : ∃ g vc ao cp, w.cell? ⟨hb, 1, none⟩ = some (.slice (some ⟨g, 0, none⟩) ds.length vc) ∧ w.cell? ⟨g, i * 2, none⟩ = some (.int .i64 l) ∧ w.cell? ⟨g, i * 2 + 1, none⟩ = some (.slice ao L.length cp) ∧ IntsAt w ao L ∧ (ao = none → cp = 0) := by
  refine h.fact (fun _ h => ?_)
  obtain ⟨F1, F2, _, ⟨va, vc, cs, h1, rfl⟩, h2, _⟩ := h
  rw [List.getElem?_map] at hi
  cases hc : cs[i]? with
  | none => rw [hc] at hi; cases hi
  | some c =>
    rw [hc] at hi
    obtain ⟨cf, ca, cp, cL⟩ := c
    simp [CV.d] at hi
    obtain ⟨rfl, rfl⟩ := hi
    have hin : i < cs.length := by
      rcases Nat.lt_or_ge i cs.length with h | h
      · exact h
      · rw [List.getElem?_eq_none h] at hc; cases hc
    obtain ⟨hI, hcc, _⟩ := h1.each i _ hc
    obtain ⟨q0, q1⟩ := flat_get0 cs i _ hc
    have hcell := h1.cell
    rcases h1.own.2 with ⟨_, h0⟩ | ⟨g, cap, cur, ev, _, hg, _, hcap, hsz, htake⟩
    · omega
    cases ev
    have hcu : ∀ j u, (flat cs)[j]? = some u → w.cell? ⟨g, j, none⟩ = some u := by
      intro j u hu
      have hj : j < cs.length * 2 := by
        rcases Nat.lt_or_ge j (cs.length * 2) with h | h
        · exact h
        · rw [List.getElem?_eq_none (by rw [flat_length]; exact h)] at hu; cases hu
      rw [← htake, List.getElem?_take, if_pos hj] at hu
      have hu' : cur[j]? = some u := by simpa using hu
      simp [World.cell?, hg, hu']
    exact ⟨g, _, ca, cp, by rw [List.length_map]; exact hcell, hcu _ _ q0, hcu _ _ q1, hI, hcc⟩
/-- A word is stored. -/
theorem Has.rset (h : Has w0 F0 (rrawA hb mb ws kd ds) w) {gw n : Nat} (hc : w.cell? ⟨mb, 0, none⟩ = some (.slice (some ⟨gw, 0, none⟩) n n)) (i : Nat) (x : Int) : Has w0 F0 (rrawA hb mb (ws.set i x) kd ds) (w.setCell ⟨gw, i, none⟩ (.int .i64 x)) := by
  refine (Has.left h.comm (A' := rspaceA mb (ws.set i x) kd) (fun F e => ?_)).comm
  obtain ⟨L, h2⟩ := e
  have e := h2.c0
  rw [hc] at e
  have e2 : gw = L.gw := by injection e with e; injection e with e; injection e with e; injection e
  subst e2
  obtain ⟨f0, f1, f2, f3, f4⟩ := h2.f
  exact ⟨F, ⟨L, h2.setW i x⟩, Keep.setCell _ _ f1, fun k e => .inl e⟩
end

section
variable {w0 : World} {F0 : List Nat} {hb mb : Nat} {ws : List Int} {kd : List PK} {ds : List (Int × List Int)} (w : World)
theorem yalloc (n N E : Int) (ws' : List Int) (kd' : List PK) (h : Has w0 F0 (rrawA hb mb ws kd ds) w) (hw : WF kd) (hr : AllocT kd ws n N E ws' kd') :
    Calls Tryz.prog 60 #[.pointer (some ⟨mb, 0, none⟩), .int .i64 n] w fun e w' => e = .returned (.agg #[.int .i64 N, .int .i64 E]) ∧ Has w0 F0 (rrawA hb mb ws' kd' ds) w' := by
  cases hr with
  | arg hb =>
    refine (ralloc_arg mb n w hb).mono ?_
    rintro e w' ⟨rfl, hK⟩
    exact ⟨rfl, h.keep0 hK⟩
  | no hb hr =>
    obtain ⟨F, hS⟩ := h.rspace
    refine (ralloc_no mb n F ws kd w hS hw hr).mono ?_
    rintro e w' ⟨rfl, hK⟩
    exact ⟨rfl, h.keep0 hK⟩
  | yes a b kd' hr hb =>
    obtain ⟨F, ⟨F1, F2, hF, h1, h2, hd⟩, u⟩ := h
    refine (ralloc_yes mb a b n F2 ws kd kd' w h2 hw hr hb).mono ?_
    rintro e w' ⟨F', rfl, hS, hK, hG⟩
    obtain ⟨G2, g3, g4⟩ := star_right (B' := rspaceA mb (fill0 ws a b) kd') hF hd h1 hS ⟨hK, hG⟩
    exact ⟨rfl, G2, g3, u.trans g4⟩
theorem yfind (a : Int) (h : Has w0 F0 (rrawA hb mb ws kd ds) w) (hw : WF kd) :
    Calls Tryz.prog 67 #[.pointer (some ⟨mb, 0, none⟩), .int .i64 a] w fun e w' => e = .returned (foundA (findI kd a)) ∧ Keep [] w w' := by
  obtain ⟨F, hS⟩ := h.rspace
  exact rfind_any mb F a ws kd w hS hw
theorem yeach (h : Has w0 F0 (rrawA hb mb ws kd ds) w) (hw : WF kd) :
    Calls Tryz.prog 50 #[.pointer (some ⟨mb, 0, none⟩)] w fun e w' => ∃ la lc, e = .returned (.slice la (eachK kd).length lc) ∧ IntsAt w' la (eachK kd) ∧ Keep [] w w' := by
  obtain ⟨F, hS⟩ := h.rspace
  refine (reach_any mb F ws kd w hS hw).mono ?_
  rintro e w' ⟨v, rfl, ⟨la, lc, rfl, h1, h2, h3⟩, hK⟩
  exact ⟨la, lc, rfl, h1, hK⟩
end

end Go.Proofs.YtamcoejlghfleaaGreat

/-
  Package object: what begins, Head, place, Field, Put, fits, setHead, Make and Final answer and leave.
-/
namespace Go.Proofs.YtamcoejlghfleaaGreat
open Go.RowKit

section
variable {w0 : World} {F0 : List Nat} {hb : Nat} {ws : List Int} {kd : List PK} {ds : List (Int × List Int)}

set_option maxHeartbeats 800000 in
theorem obegins {sb tb : Nat} (a : Int) (w : World) (h : Has w0 F0 (rawA hb sb tb ws kd ds) w) (hw : WF kd) :
    Calls Tryz.prog 71 #[.pointer (some ⟨hb, 0, none⟩), .int .i64 a] w fun e w' => e = .returned (.bool (isAt kd a)) ∧ Keep [] w w' := by
  obtain ⟨c0, _⟩ := h.cells
  have HX := (show Hid (Has w0 F0 (rawA hb sb tb ws kd ds) w) from h)
  have HW := (show Hid (WF kd) from hw)
  clear h hw
  unfold isAt
  cases hf : findI kd a with
  | none =>
    have HF := (show Hid (findI kd a = none) from hf)
    clear hf
    go_enter Tryz.func71, Tryz.ntmps71
    go_wp2_with (first | (go_at_call 92; refine (xfind _ a HX.out HW.out).mono ?_; rw [HF.out]; simp only [foundV]; rintro e w1 ⟨rfl, hK1⟩))
    go_ret
    exact ⟨rfl, hK1⟩
  | some o =>
    obtain ⟨s, n⟩ := o
    have HF := (show Hid (findI kd a = some (s, n)) from hf)
    clear hf
    go_enter Tryz.func71, Tryz.ntmps71
    go_wp2_with (first | (go_at_call 92; refine (xfind _ a HX.out HW.out).mono ?_; rw [HF.out]; simp only [foundV]; rintro e w1 ⟨rfl, hK1⟩))
    go_ret
    exact ⟨rfl, hK1⟩
set_option maxHeartbeats 800000 in
theorem obegins_nil (a : Int) (w : World) :
    Calls Tryz.prog 71 #[.pointer none, .int .i64 a] w fun e w' => e = .returned (.bool false) ∧ w = w' := by
  go_enter Tryz.func71, Tryz.ntmps71
  go_wp2_with fail
  go_ret
  exact ⟨rfl, rfl⟩

/-- Head where there is none. -/
theorem ohead_none (pv : Option Addr) (a : Int) (w : World) (hc : ∀ w1, Keep [] w w1 → Calls Tryz.prog 71 #[.pointer pv, .int .i64 a] w1 fun e w' => e = .returned (.bool false) ∧ Keep [] w1 w') :
    Calls Tryz.prog 48 #[.pointer pv, .int .i64 a] w fun e w' => e = .returned (.tuple #[.agg #[.int .i64 0, .int .i64 0, .int .i64 0, .bool false], .int .i64 2]) ∧ Keep [] w w' := by
  have HC := (show Hid (∀ w1, Keep [] w w1 → Calls Tryz.prog 71 #[.pointer pv, .int .i64 a] w1 fun e w' => e = .returned (.bool false) ∧ Keep [] w1 w') from hc)
  have hK := Keep.alloc [] w (.cells #[.int .i64 0, .int .i64 0, .int .i64 0, .bool false] 67)
  have hx := heap_alloc_new w (.cells #[.int .i64 0, .int .i64 0, .int .i64 0, .bool false] 67)
  clear hc
  go_enter Tryz.func48, Tryz.ntmps48
  go_wp2_with (first | (go_at_call 71; refine (HC.out _ hK).mono ?_; rintro e w1 ⟨rfl, hK1⟩; have hx1 := hK1.blk hx (by simp); obtain ⟨f0, f1, f2, f3⟩ := four_free hx1; obtain ⟨d0, d1, d2, d3⟩ := four_cells hx1))
  obtain ⟨z, hk4⟩ := four_put hx1 (.int .i64 0) (.int .i64 0) (.int .i64 0) (.bool false)
  refine bodyPost_ret (results_cell_tmp_row rfl _ _ w.heap.size 67 #[.int .i64 0, .int .i64 0, .int .i64 0, .bool false] (0, 0) _ rfl z Tryz.underlying67 rfl (by kernel_rfl)) rfl ?_
  exact ⟨rfl, (((hK.trans hK1).mono (T := [w.heap.size]) (by simp)).trans hk4).drop (by simp)⟩

set_option maxRecDepth 100000 in
set_option maxHeartbeats 1600000 in
theorem ohead_yes {sb tb : Nat} (b m : Nat) (k c l : Int) (f : Bool) (w : World) (h : Has w0 F0 (rawA hb sb tb ws kd ds) w) (hw : WF kd) (hA : At kd ws b b m k c l f) :
    Calls Tryz.prog 48 #[.pointer (some ⟨hb, 0, none⟩), .int .i64 b] w fun e w' => e = .returned (.tuple #[.agg #[.int .i64 k, .int .i64 c, .int .i64 l, .bool f], .int .i64 0]) ∧ Keep [] w w' := by
  have HI := (show Hid (isAt kd (b : Int) = true) from isAt_yes hA)
  have hK := Keep.alloc [] w (.cells #[.int .i64 0, .int .i64 0, .int .i64 0, .bool false] 67)
  have hx := heap_alloc_new w (.cells #[.int .i64 0, .int .i64 0, .int .i64 0, .bool false] 67)
  have HX := (show Hid (Has w0 F0 (rawA hb sb tb ws kd ds) (w.alloc (.cells #[.int .i64 0, .int .i64 0, .int .i64 0, .bool false] 67))) from h.keep0 hK)
  have HW := (show Hid (WF kd) from hw)
  obtain ⟨_, e1, e2, e3, e4, e5⟩ := hA.facts hw
  have hlt : b < ws.length := by rw [h.cells.2.2.2.2]; omega
  obtain ⟨x, hx'⟩ : ∃ x, ws[b]?.getD 0 = x := ⟨_, rfl⟩
  have HV := (show Hid (ws[b]?.getD 0 = x) from hx')
  have hWd := hA.2.2
  rw [hx'] at hWd
  have HWD := (show Hid (Word x k c l f) from hWd)
  clear h hw hA hx' hWd e1 e2 e3 e4 e5
  go_enter Tryz.func48, Tryz.ntmps48
  go_wp2_with (first | (go_at_call 71; refine (obegins b _ HX.out HW.out).mono ?_; rw [HI.out]; rintro e w1 ⟨rfl, hK1⟩; have hx1 := hK1.blk hx (by simp); obtain ⟨c0, _, ⟨ab, ag, c2, hAr⟩, _, _⟩ := (HX.out.keep0 hK1).cells) | (go_at_call 66; refine (xload _ ab ag b hAr hlt).mono ?_; rw [HV.out]; rintro e w' ⟨rfl, rfl⟩) | (go_at_call 72; refine (hget_yes x k c l f _ HWD.out).mono ?_; rintro e w3 ⟨rfl, hK3⟩; have hx3 := (hK3.trans (Keep.alloc [] w3 (.cells #[.int .i64 k, .int .i64 c, .int .i64 l, .bool f] 67))).blk hx1 (by simp); have hy3 := heap_alloc_new w3 (.cells #[.int .i64 k, .int .i64 c, .int .i64 l, .bool f] 67); obtain ⟨f0, f1, f2, f3⟩ := four_free hx3; obtain ⟨d0, d1, d2, d3⟩ := four_cells hx3; obtain ⟨g0, g1, g2, g3⟩ := four_cells hy3; have hlw := lt_of_block hx1; have hne : w.heap.size ≠ w3.heap.size := (by have := hK3.size; omega)))
  obtain ⟨z, hk4⟩ := four_put hx3 (.int .i64 k) (.int .i64 c) (.int .i64 l) (.bool f)
  refine bodyPost_ret (results_cell_tmp_row rfl _ _ w.heap.size 67 #[.int .i64 k, .int .i64 c, .int .i64 l, .bool f] (0, 0) _ rfl z Tryz.underlying67 rfl (by kernel_rfl)) rfl ?_
  exact ⟨rfl, (((((hK.trans hK1).trans hK3).trans (Keep.alloc [] w3 _)).mono (T := [w.heap.size]) (by simp)).trans hk4).drop (by simp)⟩

theorem ohead (a k c l E : Int) (f : Bool) (w : World) (h : Has w0 F0 (heapA hb ws kd ds) w) (hT : HeadT kd ws a k c l f E) :
    Calls Tryz.prog 48 #[.pointer (some ⟨hb, 0, none⟩), .int .i64 a] w fun e w' => e = .returned (.tuple #[.agg #[.int .i64 k, .int .i64 c, .int .i64 l, .bool f], .int .i64 E]) ∧ Keep [] w w' := by
  obtain ⟨sb, tb, hr⟩ := h.raw
  have hw := h.fine.wf
  cases hT with
  | no hn =>
    refine ohead_none _ a w (fun w1 K => ?_)
    have := obegins a w1 (hr.keep0 K) hw
    rw [isAt_no hn] at this
    exact this
  | yes b m k c l f hA =>
    obtain ⟨rfl, _⟩ := hA.facts hw
    exact ohead_yes b m k c l f w hr hw hA
theorem ohead_nil (a : Int) (w : World) :
    Calls Tryz.prog 48 #[.pointer none, .int .i64 a] w fun e w' => e = .returned (.tuple #[.agg #[.int .i64 0, .int .i64 0, .int .i64 0, .bool false], .int .i64 2]) ∧ Keep [] w w' :=
  ohead_none none a w (fun w1 _ => (obegins_nil a w1).mono (by rintro e w' ⟨rfl, rfl⟩; exact ⟨rfl, Keep.refl _ _⟩))

/-! ### Fields -/
set_option maxRecDepth 100000 in
set_option maxHeartbeats 1600000 in
theorem oplace_head (pv : Option Addr) (a i : Int) (k c l E : Int) (f : Bool) (w : World) (hc : Calls Tryz.prog 48 #[.pointer pv, .int .i64 a] w fun e w' => e = .returned (.tuple #[.agg #[.int .i64 k, .int .i64 c, .int .i64 l, .bool f], .int .i64 E]) ∧ Keep [] w w') (hE : E ≠ 0) :
    Calls Tryz.prog 64 #[.pointer pv, .int .i64 a, .int .i64 i] w fun e w' => e = .returned (.tuple #[.int .i64 0, .int .i64 E]) ∧ Keep [] w w' := by
  have HC := (show Hid (Calls Tryz.prog 48 #[.pointer pv, .int .i64 a] w fun e w' => e = .returned (.tuple #[.agg #[.int .i64 k, .int .i64 c, .int .i64 l, .bool f], .int .i64 E]) ∧ Keep [] w w') from hc)
  have hd : (E == 0) = false := by simpa using hE
  clear hc
  go_enter Tryz.func64, Tryz.ntmps64
  go_wp2_with (first | (go_at_call 48; refine HC.out.mono ?_; rintro e w1 ⟨rfl, hK1⟩))
  go_ret2
  exact ⟨rfl, hK1.trans (Keep.alloc [] _ _)⟩
set_option maxRecDepth 100000 in
set_option maxHeartbeats 1600000 in
theorem oplace_arg (pv : Option Addr) (a i : Int) (k c l : Int) (f : Bool) (w : World) (hc : Calls Tryz.prog 48 #[.pointer pv, .int .i64 a] w fun e w' => e = .returned (.tuple #[.agg #[.int .i64 k, .int .i64 c, .int .i64 l, .bool f], .int .i64 0]) ∧ Keep [] w w') (hi : ¬ (0 ≤ i ∧ i < l)) :
    Calls Tryz.prog 64 #[.pointer pv, .int .i64 a, .int .i64 i] w fun e w' => e = .returned (.tuple #[.int .i64 0, .int .i64 1]) ∧ Keep [] w w' := by
  have HC := (show Hid (Calls Tryz.prog 48 #[.pointer pv, .int .i64 a] w fun e w' => e = .returned (.tuple #[.agg #[.int .i64 k, .int .i64 c, .int .i64 l, .bool f], .int .i64 0]) ∧ Keep [] w w') from hc)
  clear hc
  by_cases h0 : i < 0
  · go_enter Tryz.func64, Tryz.ntmps64
    go_wp2_with (first | (go_at_call 48; refine HC.out.mono ?_; rintro e w1 ⟨rfl, hK1⟩))
    go_ret2
    exact ⟨rfl, hK1.trans (Keep.alloc [] _ _)⟩
  · have h1 : l ≤ i := by omega
    clear hi
    go_enter Tryz.func64, Tryz.ntmps64
    go_wp2_with (first | (go_at_call 48; refine HC.out.mono ?_; rintro e w1 ⟨rfl, hK1⟩; have hy := heap_alloc_new w1 (.cells #[.int .i64 k, .int .i64 c, .int .i64 l, .bool f] 67); obtain ⟨g0, g1, g2, g3⟩ := four_cells hy))
    go_ret2
    exact ⟨rfl, hK1.trans (Keep.alloc [] _ _)⟩
set_option maxRecDepth 100000 in
set_option maxHeartbeats 1600000 in
theorem oplace_yes (pv : Option Addr) (b j : Nat) (k c l : Int) (f : Bool) (w : World) (hc : Calls Tryz.prog 48 #[.pointer pv, .int .i64 b] w fun e w' => e = .returned (.tuple #[.agg #[.int .i64 k, .int .i64 c, .int .i64 l, .bool f], .int .i64 0]) ∧ Keep [] w w') (hj : (j : Int) < l) (hb : b ≤ 20000) (hl : l ≤ 1023) :
    Calls Tryz.prog 64 #[.pointer pv, .int .i64 b, .int .i64 j] w fun e w' => e = .returned (.tuple #[.int .i64 ((b + 1 + j : Nat) : Int), .int .i64 0]) ∧ Keep [] w w' := by
  have HC := (show Hid (Calls Tryz.prog 48 #[.pointer pv, .int .i64 b] w fun e w' => e = .returned (.tuple #[.agg #[.int .i64 k, .int .i64 c, .int .i64 l, .bool f], .int .i64 0]) ∧ Keep [] w w') from hc)
  have hd : decide (l ≤ (j : Int)) = false := by rw [decide_eq_false_iff_not]; omega
  have hd0 : decide ((j : Int) < 0) = false := by rw [decide_eq_false_iff_not]; omega
  clear hc
  go_enter Tryz.func64, Tryz.ntmps64
  go_wp2_with (first | (go_at_call 48; refine HC.out.mono ?_; rintro e w1 ⟨rfl, hK1⟩; have hy := heap_alloc_new w1 (.cells #[.int .i64 k, .int .i64 c, .int .i64 l, .bool f] 67); obtain ⟨g0, g1, g2, g3⟩ := four_cells hy))
  go_ret2
  exact ⟨by go_num, hK1.trans (Keep.alloc [] _ _)⟩
theorem oplace (a i : Int) (p : Nat) (E : Int) (w : World) (h : Has w0 F0 (heapA hb ws kd ds) w) (hT : PlaceT kd ws a i p E) :
    Calls Tryz.prog 64 #[.pointer (some ⟨hb, 0, none⟩), .int .i64 a, .int .i64 i] w fun e w' => e = .returned (.tuple #[.int .i64 p, .int .i64 E]) ∧ Keep [] w w' := by
  cases hT with
  | none hn => exact oplace_head _ a i _ _ _ _ _ w (ohead a _ _ _ _ _ w h (.no hn)) (by omega)
  | arg b m k c l f hA hi => exact oplace_arg _ a i _ _ _ _ w (ohead a _ _ _ _ _ w h (.yes b m k c l f hA)) hi
  | yes b m j k c l f hA e hj hl =>
    obtain ⟨rfl, e1, e2, e3, e4, e5⟩ := hA.facts h.fine.wf
    subst e
    have := hA.2.2.bd
    exact oplace_yes _ b j k c l f w (ohead b _ _ _ _ _ w h (.yes b m k c l f hA)) hj (by omega) (by omega)

set_option maxHeartbeats 1600000 in
theorem ofield_no (pv : Option Addr) (a i E : Int) (w : World) (hc : Calls Tryz.prog 64 #[.pointer pv, .int .i64 a, .int .i64 i] w fun e w' => e = .returned (.tuple #[.int .i64 0, .int .i64 E]) ∧ Keep [] w w') (hE : E ≠ 0) :
    Calls Tryz.prog 37 #[.pointer pv, .int .i64 a, .int .i64 i] w fun e w' => e = .returned (.tuple #[.int .i64 0, .int .i64 E]) ∧ Keep [] w w' := by
  have HC := (show Hid (Calls Tryz.prog 64 #[.pointer pv, .int .i64 a, .int .i64 i] w fun e w' => e = .returned (.tuple #[.int .i64 0, .int .i64 E]) ∧ Keep [] w w') from hc)
  have hd : (E == 0) = false := by simpa using hE
  clear hc
  go_enter Tryz.func37, Tryz.ntmps37
  go_wp2_with (first | (go_at_call 64; refine HC.out.mono ?_; rintro e w1 ⟨rfl, hK1⟩))
  go_ret2
  exact ⟨rfl, hK1⟩
set_option maxHeartbeats 1600000 in
theorem ofield (a i N E : Int) (w : World) (h : Has w0 F0 (heapA hb ws kd ds) w) (hT : FieldT kd ws a i N E) :
    Calls Tryz.prog 37 #[.pointer (some ⟨hb, 0, none⟩), .int .i64 a, .int .i64 i] w fun e w' => e = .returned (.tuple #[.int .i64 N, .int .i64 E]) ∧ Keep [] w w' := by
  cases hT with
  | no E hp hE => exact ofield_no _ a i E w (oplace a i 0 E w h hp) (by omega)
  | yes p hp hlt =>
    obtain ⟨sb, tb, hr⟩ := h.raw
    have HC := (show Hid (Calls Tryz.prog 64 #[.pointer (some ⟨hb, 0, none⟩), .int .i64 a, .int .i64 i] w fun e w' => e = .returned (.tuple #[.int .i64 p, .int .i64 0]) ∧ Keep [] w w') from oplace a i p 0 w h hp)
    have HR := (show Hid (Has w0 F0 (rawA hb sb tb ws kd ds) w) from hr)
    obtain ⟨x, hx'⟩ : ∃ x, ws[p]?.getD 0 = x := ⟨_, rfl⟩
    have HV := (show Hid (ws[p]?.getD 0 = x) from hx')
    rw [hx']
    clear hr h hp hx'
    go_enter Tryz.func37, Tryz.ntmps37
    go_wp2_with (first | (go_at_call 64; refine HC.out.mono ?_; rintro e w1 ⟨rfl, hK1⟩; obtain ⟨c0, _, ⟨ab, ag, c2, hAr⟩, _, _⟩ := (HR.out.keep0 hK1).cells) | (go_at_call 66; refine (xload _ ab ag p hAr hlt).mono ?_; rw [HV.out]; rintro e w' ⟨rfl, rfl⟩))
    go_ret2
    exact ⟨rfl, hK1⟩
set_option maxHeartbeats 1600000 in
theorem oput_no (pv : Option Addr) (a i x E : Int) (w : World) (hc : Calls Tryz.prog 64 #[.pointer pv, .int .i64 a, .int .i64 i] w fun e w' => e = .returned (.tuple #[.int .i64 0, .int .i64 E]) ∧ Keep [] w w') (hE : E ≠ 0) :
    Calls Tryz.prog 33 #[.pointer pv, .int .i64 a, .int .i64 i, .int .i64 x] w fun e w' => e = .returned (.int .i64 E) ∧ Keep [] w w' := by
  have HC := (show Hid (Calls Tryz.prog 64 #[.pointer pv, .int .i64 a, .int .i64 i] w fun e w' => e = .returned (.tuple #[.int .i64 0, .int .i64 E]) ∧ Keep [] w w') from hc)
  have hd : (E == 0) = false := by simpa using hE
  clear hc
  go_enter Tryz.func33, Tryz.ntmps33
  go_wp2_with (first | (go_at_call 64; refine HC.out.mono ?_; rintro e w1 ⟨rfl, hK1⟩))
  go_ret
  exact ⟨rfl, hK1⟩
set_option maxHeartbeats 1600000 in
theorem oput (a i x E : Int) (ws' : List Int) (w : World) (h : Has w0 F0 (heapA hb ws kd ds) w) (hT : PutT kd ws a i x E ws') (hx : inI x) :
    Calls Tryz.prog 33 #[.pointer (some ⟨hb, 0, none⟩), .int .i64 a, .int .i64 i, .int .i64 x] w fun e w' => e = .returned (.int .i64 E) ∧ Has w0 F0 (heapA hb ws' kd ds) w' := by
  have hfin := hT.fine h.fine hx
  cases hT with
  | no E hp hE =>
    refine (oput_no _ a i x E w (oplace a i 0 E w h hp) (by omega)).mono ?_
    rintro e w' ⟨rfl, hK⟩
    exact ⟨rfl, h.keep0 hK⟩
  | yes p hp hlt =>
    obtain ⟨sb, tb, hr⟩ := h.raw
    have HC := (show Hid (Calls Tryz.prog 64 #[.pointer (some ⟨hb, 0, none⟩), .int .i64 a, .int .i64 i] w fun e w' => e = .returned (.tuple #[.int .i64 p, .int .i64 0]) ∧ Keep [] w w') from oplace a i p 0 w h hp)
    have HR := (show Hid (Has w0 F0 (rawA hb sb tb ws kd ds) w) from hr)
    have HFI := (show Hid (Fine (ws.set p x) kd ds) from hfin)
    clear hr h hp hfin hx
    go_enter Tryz.func33, Tryz.ntmps33
    go_wp2_with (first | (go_at_call 64; refine HC.out.mono ?_; rintro e w1 ⟨rfl, hK1⟩; obtain ⟨c0, _, ⟨ab, ag, c2, hAr⟩, _, _⟩ := (HR.out.keep0 hK1).cells) | (go_at_call 65; refine (xstore _ ab p x (HR.out.keep0 hK1) c2 hlt).mono ?_; rintro e w2 ⟨rfl, hH2⟩))
    go_ret
    exact ⟨rfl, hH2.heap HFI.out⟩

/-! ### Heads -/
set_option maxHeartbeats 1600000 in
theorem osethead {sb tb : Nat} (b : Nat) (k c l : Int) (f : Bool) (w : World) (h : Has w0 F0 (rawA hb sb tb ws kd ds) w) (hm : mayH k c l f = true) (hlt : b < ws.length) :
    Calls Tryz.prog 57 #[.pointer (some ⟨hb, 0, none⟩), .int .i64 b, .agg #[.int .i64 k, .int .i64 c, .int .i64 l, .bool f]] w fun e w' => e = .returned (.int .i64 0) ∧ Has w0 F0 (rawA hb sb tb (ws.set b (putH k c l f)) kd ds) w' := by
  have hK := Keep.alloc [] w (.cells #[.int .i64 k, .int .i64 c, .int .i64 l, .bool f] 67)
  have hx := heap_alloc_new w (.cells #[.int .i64 k, .int .i64 c, .int .i64 l, .bool f] 67)
  obtain ⟨g0, g1, g2, g3⟩ := four_cells hx
  have HX := (show Hid (Has w0 F0 (rawA hb sb tb ws kd ds) (w.alloc (.cells #[.int .i64 k, .int .i64 c, .int .i64 l, .bool f] 67))) from h.keep0 hK)
  have HM := (show Hid (mayH k c l f = true) from hm)
  obtain ⟨x, hx'⟩ : ∃ x, putH k c l f = x := ⟨_, rfl⟩
  have HP := (show Hid (putN k c l f = x) from by show _ = _; unfold putN; rw [if_pos hm]; exact hx')
  rw [hx']
  clear h hm hx'
  go_enter Tryz.func57, Tryz.ntmps57
  go_wp2_with (first | (go_at_call 81; refine (hput_any k c l f _).mono ?_; rw [HP.out, HM.out]; rintro e w1 ⟨rfl, hK1⟩; obtain ⟨c0, _, ⟨ab, ag, c2, hAr⟩, _, _⟩ := (HX.out.keep0 hK1).cells) | (go_at_call 65; refine (xstore _ ab b x (HX.out.keep0 hK1) c2 hlt).mono ?_; rintro e w2 ⟨rfl, hH2⟩))
  go_ret
  exact ⟨rfl, hH2⟩

end

end Go.Proofs.YtamcoejlghfleaaGreat

/-
  Package object: what fits, Make, Final and New answer and leave.
-/
namespace Go.Proofs.YtamcoejlghfleaaGreat
open Go.RowKit

theorem two_cells {w : World} {b : Nat} {t : TypeId} {a0 a1 : Value} (h : w.heap[b]? = some (.cells #[a0, a1] t (0, 0))) : w.cell? ⟨b, 0, none⟩ = some a0 ∧ w.cell? ⟨b, 1, none⟩ = some a1 := by
  refine ⟨?_, ?_⟩ <;> simp [World.cell?, h]
theorem two_free {w : World} {b : Nat} {t : TypeId} {a0 a1 : Value} (h : w.heap[b]? = some (.cells #[a0, a1] t (0, 0))) : w.frozen? ⟨b, 0, none⟩ = false ∧ w.frozen? ⟨b, 1, none⟩ = false := by
  refine ⟨?_, ?_⟩ <;> simp [World.frozen?, h]
theorem two_put {w : World} {b : Nat} {t : TypeId} {a0 a1 : Value} (h : w.heap[b]? = some (.cells #[a0, a1] t (0, 0))) (b0 b1 : Value) :
    ((w.setCell ⟨b, 0, none⟩ b0).setCell ⟨b, 1, none⟩ b1).heap[b]? = some (.cells #[b0, b1] t (0, 0)) ∧ Keep [b] w ((w.setCell ⟨b, 0, none⟩ b0).setCell ⟨b, 1, none⟩ b1) := by
  have z1 := heap_setCell_same w b 0 _ _ b0 h
  have z2 := heap_setCell_same _ b 1 _ _ b1 z1
  exact ⟨by simpa using z2, (Keep.setCell _ _ (by simp)).trans (Keep.setCell _ _ (by simp))⟩
section
variable {w0 : World} {F0 : List Nat} {hb : Nat} {ws : List Int} {kd : List PK} {ds : List (Int × List Int)}

set_option maxHeartbeats 1600000 in
theorem ofits_other (pv : Option Addr) (k c l : Int) (f : Bool) (w : World) (hk : k ≠ 1) :
    Calls Tryz.prog 55 #[.pointer pv, .agg #[.int .i64 k, .int .i64 c, .int .i64 l, .bool f]] w fun e w' => e = .returned (.int .i64 0) ∧ Keep [] w w' := by
  have hd : (k == 1) = false := by simpa using hk
  have hx := heap_alloc_new w (.cells #[.int .i64 k, .int .i64 c, .int .i64 l, .bool f] 67)
  obtain ⟨g0, g1, g2, g3⟩ := four_cells hx
  go_enter Tryz.func55, Tryz.ntmps55
  go_wp2_with fail
  go_ret
  exact ⟨rfl, Keep.alloc [] _ _⟩
set_option maxRecDepth 100000 in
set_option maxHeartbeats 1600000 in
theorem ofits_none {sb tb : Nat} (c l : Int) (f : Bool) (w : World) (h : Has w0 F0 (rawA hb sb tb ws kd ds) w) (hc : c < 1 ∨ (ds.length : Int) < c) :
    Calls Tryz.prog 55 #[.pointer (some ⟨hb, 0, none⟩), .agg #[.int .i64 1, .int .i64 c, .int .i64 l, .bool f]] w fun e w' => e = .returned (.int .i64 2) ∧ Keep [] w w' := by
  have hK := Keep.alloc [] w (.cells #[.int .i64 1, .int .i64 c, .int .i64 l, .bool f] 67)
  have hx := heap_alloc_new w (.cells #[.int .i64 1, .int .i64 c, .int .i64 l, .bool f] 67)
  have h1 := h.keep0 hK
  clear h
  obtain ⟨g0, g1, g2, g3⟩ := four_cells hx
  go_enter Tryz.func55, Tryz.ntmps55
  go_upto_region 3 with fail
  generalize w.alloc (.cells #[.int .i64 1, .int .i64 c, .int .i64 l, .bool f] 67) = w1 at *
  obtain ⟨c0, c1, _⟩ := h1.cells
  obtain ⟨F, hT⟩ := h1.tab
  have HT := (show Hid (∀ w', Keep [] w1 w' → IsTab w' tb F ds) from fun w' K => hT.keep K (by simp))
  have hKz := (Keep.alloc [] w1 (.cells #[.int .i64 0, .slice none 0 0] 135)).trans (Keep.drew [] _)
  obtain ⟨b0, b1, _⟩ := (h1.keep0 hKz).cells
  obtain ⟨d0, d1, d2, d3⟩ := four_cells (hKz.blk hx (by simp))
  have hn1 := World.new_ne _ _ c1
  have hn2 := World.new_ne _ _ g1
  clear h1 hT
  go_region_law (first | (go_simp; refine (tclass_no tb F ds c _ (HT.out _ (by first | exact Keep.drew [] _ | exact (Keep.alloc [] _ _).trans (Keep.drew [] _))) hc).mono ?_; rintro e w2 ⟨rfl, hK2⟩; have hKe : Keep [] w1 w2 := (by first | exact (Keep.drew [] _).trans hK2 | exact ((Keep.alloc [] _ _).trans (Keep.drew [] _)).trans hK2); obtain ⟨q0, q1, q2, q3⟩ := four_cells (hKe.blk hx (by simp)); have hn3 : w2.heap.size ≠ w.heap.size := World.new_ne _ _ q1; have hn4 := hn3.symm; try (have hz := hK2.blk (heap_alloc_new w1 (.cells #[.int .i64 0, .slice none 0 0] 135)) (by simp); obtain ⟨u0, u1⟩ := two_cells hz; obtain ⟨v0, v1⟩ := two_free hz)))
  all_goals first
    | (obtain ⟨hz1, hk4⟩ := two_put hz (.int .i64 0) (.slice none 0 0)
       have hxz := hk4.blk (hKe.blk hx (by simp)) (by simpa using hn2.symm)
       have hKf := hK.trans (((hKe.mono (T := [w1.heap.size]) (by simp)).trans hk4).drop (by simp))
       clear hk4 hz u0 u1 v0 v1
       generalize (w2.setCell ⟨w1.heap.size, 0, none⟩ (.int .i64 0)).setCell ⟨w1.heap.size, 1, none⟩ (.slice none 0 0) = wz at *)
    | (have hxz := (Keep.alloc [] w2 (.cells #[.int .i64 0, .slice none 0 0] 135)).blk (hKe.blk hx (by simp)) (by simp)
       have hz1 := heap_alloc_new w2 (.cells #[.int .i64 0, .slice none 0 0] 135)
       have hKf := (hK.trans hKe).trans (Keep.alloc [] w2 (.cells #[.int .i64 0, .slice none 0 0] 135))
       generalize w2.alloc (.cells #[.int .i64 0, .slice none 0 0] 135) = wz at *)
  all_goals (obtain ⟨r0, r1, r2, r3⟩ := four_cells hxz; obtain ⟨t0, t1⟩ := two_cells hz1; clear hxz hz1 q0 q1 q2 q3 hKe hK2)
  all_goals (go_wp2_with fail)
  all_goals go_ret
  all_goals exact ⟨rfl, hKf⟩
set_option maxRecDepth 100000 in
set_option maxHeartbeats 1600000 in
theorem ofits_arg {sb tb : Nat} (i : Nat) (c l n : Int) (f : Bool) (L : List Int) (w : World) (h : Has w0 F0 (rawA hb sb tb ws kd ds) w) (hc : c = (i : Int) + 1) (hi : ds[i]? = some (n, L)) (hl : ds.length ≤ 256) (hne : l ≠ n) :
    Calls Tryz.prog 55 #[.pointer (some ⟨hb, 0, none⟩), .agg #[.int .i64 1, .int .i64 c, .int .i64 l, .bool f]] w fun e w' => e = .returned (.int .i64 1) ∧ Keep [] w w' := by
  have HCI := (show Hid (c = (i : Int) + 1) from hc)
  have hd : (l == n) = false := by simpa using hne
  clear hc
  have hK := Keep.alloc [] w (.cells #[.int .i64 1, .int .i64 c, .int .i64 l, .bool f] 67)
  have hx := heap_alloc_new w (.cells #[.int .i64 1, .int .i64 c, .int .i64 l, .bool f] 67)
  have h1 := h.keep0 hK
  clear h
  obtain ⟨g0, g1, g2, g3⟩ := four_cells hx
  go_enter Tryz.func55, Tryz.ntmps55
  go_upto_region 3 with fail
  generalize w.alloc (.cells #[.int .i64 1, .int .i64 c, .int .i64 l, .bool f] 67) = w1 at *
  obtain ⟨c0, c1, _⟩ := h1.cells
  obtain ⟨F, hT⟩ := h1.tab
  have HT := (show Hid (∀ w', Keep [] w1 w' → IsTab w' tb F ds) from fun w' K => hT.keep K (by simp))
  have hKz := (Keep.alloc [] w1 (.cells #[.int .i64 0, .slice none 0 0] 135)).trans (Keep.drew [] _)
  obtain ⟨b0, b1, _⟩ := (h1.keep0 hKz).cells
  obtain ⟨d0, d1, d2, d3⟩ := four_cells (hKz.blk hx (by simp))
  have hn1 := World.new_ne _ _ c1
  have hn2 := World.new_ne _ _ g1
  clear h1 hT
  go_region_law (first | (go_simp; refine (tclass_at tb i F ds n c L _ (HT.out _ (by first | exact Keep.drew [] _ | exact (Keep.alloc [] _ _).trans (Keep.drew [] _))) hi (by omega) HCI.out).mono ?_; rintro e w2 ⟨la, lc, rfl, HG, hK2⟩; have hKe : Keep [] w1 w2 := (by first | exact (Keep.drew [] _).trans hK2 | exact ((Keep.alloc [] _ _).trans (Keep.drew [] _)).trans hK2); obtain ⟨q0, q1, q2, q3⟩ := four_cells (hKe.blk hx (by simp)); have hn3 : w2.heap.size ≠ w.heap.size := World.new_ne _ _ q1; have hn4 := hn3.symm; try (have hz := hK2.blk (heap_alloc_new w1 (.cells #[.int .i64 0, .slice none 0 0] 135)) (by simp); obtain ⟨u0, u1⟩ := two_cells hz; obtain ⟨v0, v1⟩ := two_free hz)))
  all_goals first
    | (obtain ⟨hz1, hk4⟩ := two_put hz (.int .i64 n) (.slice la L.length lc)
       have hxz := hk4.blk (hKe.blk hx (by simp)) (by simpa using hn2.symm)
       have hKf := hK.trans (((hKe.mono (T := [w1.heap.size]) (by simp)).trans hk4).drop (by simp))
       clear hk4 hz u0 u1 v0 v1
       generalize (w2.setCell ⟨w1.heap.size, 0, none⟩ (.int .i64 n)).setCell ⟨w1.heap.size, 1, none⟩ (.slice la L.length lc) = wz at *)
    | (have hxz := (Keep.alloc [] w2 (.cells #[.int .i64 n, .slice la L.length lc] 135)).blk (hKe.blk hx (by simp)) (by simp)
       have hz1 := heap_alloc_new w2 (.cells #[.int .i64 n, .slice la L.length lc] 135)
       have hKf := (hK.trans hKe).trans (Keep.alloc [] w2 (.cells #[.int .i64 n, .slice la L.length lc] 135))
       generalize w2.alloc (.cells #[.int .i64 n, .slice la L.length lc] 135) = wz at *)
  all_goals (obtain ⟨r0, r1, r2, r3⟩ := four_cells hxz; obtain ⟨t0, t1⟩ := two_cells hz1; clear hxz hz1 q0 q1 q2 q3 hKe hK2)
  all_goals (go_wp2_with fail)
  all_goals go_ret
  all_goals exact ⟨rfl, hKf⟩
set_option maxRecDepth 100000 in
set_option maxHeartbeats 1600000 in
theorem ofits_yes {sb tb : Nat} (i : Nat) (c l n : Int) (f : Bool) (L : List Int) (w : World) (h : Has w0 F0 (rawA hb sb tb ws kd ds) w) (hc : c = (i : Int) + 1) (hi : ds[i]? = some (n, L)) (hl : ds.length ≤ 256) (hne : l = n) :
    Calls Tryz.prog 55 #[.pointer (some ⟨hb, 0, none⟩), .agg #[.int .i64 1, .int .i64 c, .int .i64 l, .bool f]] w fun e w' => e = .returned (.int .i64 0) ∧ Keep [] w w' := by
  have HCI := (show Hid (c = (i : Int) + 1) from hc)
  subst hne
  clear hc
  have hK := Keep.alloc [] w (.cells #[.int .i64 1, .int .i64 c, .int .i64 l, .bool f] 67)
  have hx := heap_alloc_new w (.cells #[.int .i64 1, .int .i64 c, .int .i64 l, .bool f] 67)
  have h1 := h.keep0 hK
  clear h
  obtain ⟨g0, g1, g2, g3⟩ := four_cells hx
  go_enter Tryz.func55, Tryz.ntmps55
  go_upto_region 3 with fail
  generalize w.alloc (.cells #[.int .i64 1, .int .i64 c, .int .i64 l, .bool f] 67) = w1 at *
  obtain ⟨c0, c1, _⟩ := h1.cells
  obtain ⟨F, hT⟩ := h1.tab
  have HT := (show Hid (∀ w', Keep [] w1 w' → IsTab w' tb F ds) from fun w' K => hT.keep K (by simp))
  have hKz := (Keep.alloc [] w1 (.cells #[.int .i64 0, .slice none 0 0] 135)).trans (Keep.drew [] _)
  obtain ⟨b0, b1, _⟩ := (h1.keep0 hKz).cells
  obtain ⟨d0, d1, d2, d3⟩ := four_cells (hKz.blk hx (by simp))
  have hn1 := World.new_ne _ _ c1
  have hn2 := World.new_ne _ _ g1
  clear h1 hT
  go_region_law (first | (go_simp; refine (tclass_at tb i F ds l c L _ (HT.out _ (by first | exact Keep.drew [] _ | exact (Keep.alloc [] _ _).trans (Keep.drew [] _))) hi (by omega) HCI.out).mono ?_; rintro e w2 ⟨la, lc, rfl, HG, hK2⟩; have hKe : Keep [] w1 w2 := (by first | exact (Keep.drew [] _).trans hK2 | exact ((Keep.alloc [] _ _).trans (Keep.drew [] _)).trans hK2); obtain ⟨q0, q1, q2, q3⟩ := four_cells (hKe.blk hx (by simp)); have hn3 : w2.heap.size ≠ w.heap.size := World.new_ne _ _ q1; have hn4 := hn3.symm; try (have hz := hK2.blk (heap_alloc_new w1 (.cells #[.int .i64 0, .slice none 0 0] 135)) (by simp); obtain ⟨u0, u1⟩ := two_cells hz; obtain ⟨v0, v1⟩ := two_free hz)))
  all_goals first
    | (obtain ⟨hz1, hk4⟩ := two_put hz (.int .i64 l) (.slice la L.length lc)
       have hxz := hk4.blk (hKe.blk hx (by simp)) (by simpa using hn2.symm)
       have hKf := hK.trans (((hKe.mono (T := [w1.heap.size]) (by simp)).trans hk4).drop (by simp))
       clear hk4 hz u0 u1 v0 v1
       generalize (w2.setCell ⟨w1.heap.size, 0, none⟩ (.int .i64 l)).setCell ⟨w1.heap.size, 1, none⟩ (.slice la L.length lc) = wz at *)
    | (have hxz := (Keep.alloc [] w2 (.cells #[.int .i64 l, .slice la L.length lc] 135)).blk (hKe.blk hx (by simp)) (by simp)
       have hz1 := heap_alloc_new w2 (.cells #[.int .i64 l, .slice la L.length lc] 135)
       have hKf := (hK.trans hKe).trans (Keep.alloc [] w2 (.cells #[.int .i64 l, .slice la L.length lc] 135))
       generalize w2.alloc (.cells #[.int .i64 l, .slice la L.length lc] 135) = wz at *)
  all_goals (obtain ⟨r0, r1, r2, r3⟩ := four_cells hxz; obtain ⟨t0, t1⟩ := two_cells hz1; clear hxz hz1 q0 q1 q2 q3 hKe hK2)
  all_goals (go_wp2_with fail)
  all_goals go_ret
  all_goals exact ⟨rfl, hKf⟩
theorem ofits {sb tb : Nat} (k c l E : Int) (f : Bool) (w : World) (h : Has w0 F0 (rawA hb sb tb ws kd ds) w) (hT : FitsT ds k c l E) (hl : ds.length ≤ 256) :
    Calls Tryz.prog 55 #[.pointer (some ⟨hb, 0, none⟩), .agg #[.int .i64 k, .int .i64 c, .int .i64 l, .bool f]] w fun e w' => e = .returned (.int .i64 E) ∧ Keep [] w w' := by
  cases hT with
  | other hk => exact ofits_other _ k c l f w hk
  | none hk hc => subst hk; exact ofits_none c l f w h hc
  | arg i n L hk hc hi hne => subst hk; exact ofits_arg i c l n f L w h hc hi hl hne
  | yes i L hk hc hi => subst hk; exact ofits_yes i c l l f L w h hc hi hl rfl

/-! ### Make -/
set_option maxRecDepth 100000 in
set_option maxHeartbeats 1600000 in
theorem omake_nil (k c l : Int) (f : Bool) (w : World) :
    Calls Tryz.prog 27 #[.pointer none, .agg #[.int .i64 k, .int .i64 c, .int .i64 l, .bool f]] w fun e w' => e = .returned (.tuple #[.int .i64 0, .int .i64 2]) ∧ Keep [] w w' := by
  go_enter Tryz.func27, Tryz.ntmps27
  go_wp2_with fail
  go_ret2
  exact ⟨rfl, Keep.alloc [] _ _⟩
set_option maxRecDepth 100000 in
set_option maxHeartbeats 1600000 in
theorem omake_arg (k c l : Int) (f : Bool) (w : World) (hm : (mayH k c l f && !f) = false) :
    Calls Tryz.prog 27 #[.pointer (some ⟨hb, 0, none⟩), .agg #[.int .i64 k, .int .i64 c, .int .i64 l, .bool f]] w fun e w' => e = .returned (.tuple #[.int .i64 0, .int .i64 1]) ∧ Keep [] w w' := by
  have hK := Keep.alloc [] w (.cells #[.int .i64 k, .int .i64 c, .int .i64 l, .bool f] 67)
  have hx := heap_alloc_new w (.cells #[.int .i64 k, .int .i64 c, .int .i64 l, .bool f] 67)
  obtain ⟨g0, g1, g2, g3⟩ := four_cells hx
  cases hm1 : mayH k c l f
  · have HM := (show Hid (mayH k c l f = false) from hm1)
    clear hm hm1
    go_enter Tryz.func27, Tryz.ntmps27
    go_wp2_with (first | (go_at_call 54; refine (hmay_any k c l f _).mono ?_; rw [HM.out]; rintro e w1 ⟨rfl, hK1⟩))
    go_ret2
    exact ⟨rfl, hK.trans hK1⟩
  · cases f
    · rw [hm1] at hm; cases hm
    · have HM := (show Hid (mayH k c l true = true) from hm1)
      clear hm hm1
      go_enter Tryz.func27, Tryz.ntmps27
      go_wp2_with (first | (go_at_call 54; refine (hmay_any k c l true _).mono ?_; rw [HM.out]; rintro e w1 ⟨rfl, hK1⟩; obtain ⟨d0, d1, d2, d3⟩ := four_cells (hK1.blk hx (by simp))))
      go_ret2
      exact ⟨rfl, hK.trans hK1⟩
set_option maxRecDepth 100000 in
set_option maxHeartbeats 1600000 in
theorem omake_fits {sb tb : Nat} (k c l E : Int) (w : World) (h : Has w0 F0 (rawA hb sb tb ws kd ds) w) (hm : mayH k c l false = true) (hT : FitsT ds k c l E) (hE : E ≠ 0) (hl : ds.length ≤ 256) :
    Calls Tryz.prog 27 #[.pointer (some ⟨hb, 0, none⟩), .agg #[.int .i64 k, .int .i64 c, .int .i64 l, .bool false]] w fun e w' => e = .returned (.tuple #[.int .i64 0, .int .i64 E]) ∧ Keep [] w w' := by
  have hK := Keep.alloc [] w (.cells #[.int .i64 k, .int .i64 c, .int .i64 l, .bool false] 67)
  have hx := heap_alloc_new w (.cells #[.int .i64 k, .int .i64 c, .int .i64 l, .bool false] 67)
  obtain ⟨g0, g1, g2, g3⟩ := four_cells hx
  have HX := (show Hid (Has w0 F0 (rawA hb sb tb ws kd ds) (w.alloc (.cells #[.int .i64 k, .int .i64 c, .int .i64 l, .bool false] 67))) from h.keep0 hK)
  have HM := (show Hid (mayH k c l false = true) from hm)
  have HT := (show Hid (FitsT ds k c l E) from hT)
  have hd : (E == 0) = false := by simpa using hE
  clear hm h hT
  go_enter Tryz.func27, Tryz.ntmps27
  go_wp2_with (first | (go_at_call 54; refine (hmay_any k c l false _).mono ?_; rw [HM.out]; rintro e w1 ⟨rfl, hK1⟩; obtain ⟨d0, d1, d2, d3⟩ := four_cells (hK1.blk hx (by simp))) | (go_at_call 55; refine (ofits k c l E false _ (HX.out.keep0 hK1) HT.out hl).mono ?_; rintro e w2 ⟨rfl, hK2⟩))
  go_ret2
  exact ⟨rfl, (hK.trans hK1).trans hK2⟩

end

end Go.Proofs.YtamcoejlghfleaaGreat

/-
  The document's own heap: Head, Field, Put.
-/
namespace Go.Proofs.YtamcoejlghfleaaGreat
open Go.RowKit

theorem cells3 {w : World} {b : Nat} {t : TypeId} {a0 a1 a2 : Value} (h : w.heap[b]? = some (.cells #[a0, a1, a2] t (0, 0))) :
    w.cell? ⟨b, 0, none⟩ = some a0 ∧ w.cell? ⟨b, 1, none⟩ = some a1 ∧ w.cell? ⟨b, 2, none⟩ = some a2 := by
  refine ⟨?_, ?_, ?_⟩ <;> simp [World.cell?, h]

section
variable {w0 : World} {F0 : List Nat} {hb : Nat} {ws : List Int} {kd : List PK} {ds : List (Int × List Int)}
set_option maxRecDepth 100000 in
set_option maxHeartbeats 1600000 in
theorem rhead_no {mb : Nat} (a : Int) (w : World) (h : Has w0 F0 (rrawA hb mb ws kd ds) w) (hw : WF kd) (hn : NotAt kd a) :
    Calls Tryz.prog 39 #[.pointer (some ⟨hb, 0, none⟩), .int .i64 a] w fun e w' => e = .returned (.agg #[.int .i64 0, .int .i64 0, .int .i64 0, .bool false, .bool false]) ∧ Keep [] w w' := by
  have hK := Keep.alloc [] w (.cells #[.int .i64 0, .int .i64 0, .int .i64 0, .bool false, .bool false] 79)
  have hx := heap_alloc_new w (.cells #[.int .i64 0, .int .i64 0, .int .i64 0, .bool false, .bool false] 79)
  have HX := (show Hid (Has w0 F0 (rrawA hb mb ws kd ds) (w.alloc (.cells #[.int .i64 0, .int .i64 0, .int .i64 0, .bool false, .bool false] 79))) from h.keep0 hK)
  have HW := (show Hid (WF kd) from hw)
  obtain ⟨c0, _⟩ := HX.out.rcells
  cases hf : findI kd a with
  | none =>
    have HF := (show Hid (findI kd a = none) from hf)
    clear h hw hf hn
    go_enter Tryz.func39, Tryz.ntmps39
    go_wp2_with (first | (go_at_call 67; refine (yfind _ a HX.out HW.out).mono ?_; rw [HF.out]; simp only [foundA]; rintro e w1 ⟨rfl, hK1⟩; have hx1 := (hK1.trans (Keep.alloc [] w1 (.cells #[.int .i64 0, .int .i64 0, .bool false] 118))).blk hx (by simp); obtain ⟨⟨f0, f1, f2, f3, f4⟩, d0, d1, d2, d3, d4⟩ := five_free hx1; obtain ⟨g0, g1, g2⟩ := cells3 (heap_alloc_new w1 (.cells #[.int .i64 0, .int .i64 0, .bool false] 118))))
    obtain ⟨z, hk4⟩ := five_put hx1 (.int .i64 0) (.int .i64 0) (.int .i64 0) (.bool false) (.bool false)
    refine bodyPost_ret (results_cell_row rfl _ _ w.heap.size 79 #[.int .i64 0, .int .i64 0, .int .i64 0, .bool false, .bool false] (0, 0) _ rfl z Tryz.underlying79 rfl (by kernel_rfl)) rfl ?_
    exact ⟨rfl, ((((hK.trans hK1).trans (Keep.alloc [] w1 _)).mono (T := [w.heap.size]) (by simp)).trans hk4).drop (by simp)⟩
  | some o =>
    obtain ⟨s, n⟩ := o
    have hsa : ¬ (s : Int) = a := hn s n hf
    have hsb : ((s : Int) == a) = false := by simpa using hsa
    have hsc : ((s : Int) != a) = true := by simpa using hsa
    have HF := (show Hid (findI kd a = some (s, n)) from hf)
    clear h hw hf hn
    go_enter Tryz.func39, Tryz.ntmps39
    go_wp2_with (first | (go_at_call 67; refine (yfind _ a HX.out HW.out).mono ?_; rw [HF.out]; simp only [foundA]; rintro e w1 ⟨rfl, hK1⟩; have hx1 := (hK1.trans (Keep.alloc [] w1 (.cells #[.int .i64 s, .int .i64 n, .bool true] 118))).blk hx (by simp); obtain ⟨⟨f0, f1, f2, f3, f4⟩, d0, d1, d2, d3, d4⟩ := five_free hx1; obtain ⟨g0, g1, g2⟩ := cells3 (heap_alloc_new w1 (.cells #[.int .i64 s, .int .i64 n, .bool true] 118))))
    obtain ⟨z, hk4⟩ := five_put hx1 (.int .i64 0) (.int .i64 0) (.int .i64 0) (.bool false) (.bool false)
    refine bodyPost_ret (results_cell_row rfl _ _ w.heap.size 79 #[.int .i64 0, .int .i64 0, .int .i64 0, .bool false, .bool false] (0, 0) _ rfl z Tryz.underlying79 rfl (by kernel_rfl)) rfl ?_
    exact ⟨rfl, ((((hK.trans hK1).trans (Keep.alloc [] w1 _)).mono (T := [w.heap.size]) (by simp)).trans hk4).drop (by simp)⟩
set_option maxRecDepth 100000 in
set_option maxHeartbeats 1600000 in
theorem rhead_yes {mb : Nat} (b m : Nat) (k c l : Int) (f : Bool) (w : World) (h : Has w0 F0 (rrawA hb mb ws kd ds) w) (hw : WF kd) (hA : At kd ws b b m k c l f) :
    Calls Tryz.prog 39 #[.pointer (some ⟨hb, 0, none⟩), .int .i64 b] w fun e w' => e = .returned (.agg #[.int .i64 k, .int .i64 c, .int .i64 l, .bool f, .bool true]) ∧ Keep [] w w' := by
  have hK := Keep.alloc [] w (.cells #[.int .i64 0, .int .i64 0, .int .i64 0, .bool false, .bool false] 79)
  have hx := heap_alloc_new w (.cells #[.int .i64 0, .int .i64 0, .int .i64 0, .bool false, .bool false] 79)
  have HX := (show Hid (Has w0 F0 (rrawA hb mb ws kd ds) (w.alloc (.cells #[.int .i64 0, .int .i64 0, .int .i64 0, .bool false, .bool false] 79))) from h.keep0 hK)
  have HW := (show Hid (WF kd) from hw)
  obtain ⟨c0, _⟩ := HX.out.rcells
  have HF := (show Hid (findI kd (b : Int) = some (b, m)) from (find_nat kd b).trans hA.2.1)
  obtain ⟨_, e1, e2, e3, e4, e5⟩ := hA.facts hw
  have hlt : b < 64 * kd.length := by omega
  have hlti : (b : Int) < ((64 * kd.length : Nat) : Int) := by omega
  obtain ⟨x, hx'⟩ : ∃ x, ws[b]?.getD 0 = x := ⟨_, rfl⟩
  have HV := (show Hid (ws[b]?.getD 0 = x) from hx')
  have hWd := hA.2.2
  rw [hx'] at hWd
  have HWD := (show Hid (Word x k c l f) from hWd)
  obtain ⟨n, hn⟩ : ∃ n, 64 * kd.length = n := ⟨_, rfl⟩
  have HN := (show Hid (64 * kd.length = n) from hn)
  rw [hn] at hlt hlti
  clear h hw hA hx' hWd e1 e2 e3 e4 e5 hn
  go_enter Tryz.func39, Tryz.ntmps39
  go_upto_region 4 with (first | (go_at_call 67; refine (yfind _ b HX.out HW.out).mono ?_; rw [HF.out]; simp only [foundA]; rintro e w1 ⟨rfl, hK1⟩; obtain ⟨g0, g1, g2⟩ := cells3 (heap_alloc_new w1 (.cells #[.int .i64 b, .int .i64 m, .bool true] 118))))
  have hKa := hK1.trans (Keep.alloc [] w1 (.cells #[.int .i64 b, .int .i64 m, .bool true] 118))
  have hx1 := hKa.blk hx (by simp)
  obtain ⟨q0, _, ⟨gw, q1, q2⟩, _⟩ := (HX.out.keep0 hKa).rcells
  have q3 := (q2 b (by rw [HN.out]; exact hlt)).1
  rw [HV.out] at q3
  rw [HN.out] at q1
  clear q2 g0 g1 g2
  generalize w1.alloc (.cells #[.int .i64 b, .int .i64 m, .bool true] 118) = w2 at *
  go_wp2_with (first | (go_at_call 68; refine (rgeth_yes x k c l f _ HWD.out).mono ?_; rintro e w3 ⟨rfl, hK3⟩; have hx3 := hK3.blk hx1 (by simp); obtain ⟨⟨f0, f1, f2, f3, f4⟩, d0, d1, d2, d3, d4⟩ := five_free hx3))
  obtain ⟨z, hk4⟩ := five_put hx3 (.int .i64 k) (.int .i64 c) (.int .i64 l) (.bool f) (.bool true)
  refine bodyPost_ret (results_cell_row rfl _ _ w.heap.size 79 #[.int .i64 k, .int .i64 c, .int .i64 l, .bool f, .bool true] (0, 0) _ rfl z Tryz.underlying79 rfl (by kernel_rfl)) rfl ?_
  exact ⟨rfl, ((((hK.trans hKa).trans hK3).mono (T := [w.heap.size]) (by simp)).trans hk4).drop (by simp)⟩
/-- Whether there is one, by the error of the other side. -/
def okE (E : Int) : Bool := E == 0
theorem rhead (a k c l E : Int) (f : Bool) (w : World) (h : Has w0 F0 (rheapA hb ws kd ds) w) (hT : HeadT kd ws a k c l f E) :
    Calls Tryz.prog 39 #[.pointer (some ⟨hb, 0, none⟩), .int .i64 a] w fun e w' => e = .returned (.agg #[.int .i64 k, .int .i64 c, .int .i64 l, .bool f, .bool (okE E)]) ∧ Keep [] w w' := by
  obtain ⟨mb, hr⟩ := h.rraw
  have hw := h.rfine.wf
  cases hT with
  | no hn => exact rhead_no a w hr hw hn
  | yes b m k c l f hA =>
    obtain ⟨rfl, _⟩ := hA.facts hw
    exact rhead_yes b m k c l f w hr hw hA

/-! ### Fields -/
set_option maxRecDepth 100000 in
set_option maxHeartbeats 1600000 in
theorem rfield_none (a i : Int) (k c l : Int) (f : Bool) (w : World) (hc : ∀ w1, Keep [] w w1 → Calls Tryz.prog 39 #[.pointer (some ⟨hb, 0, none⟩), .int .i64 a] w1 fun e w' => e = .returned (.agg #[.int .i64 k, .int .i64 c, .int .i64 l, .bool f, .bool false]) ∧ Keep [] w1 w') :
    Calls Tryz.prog 40 #[.pointer (some ⟨hb, 0, none⟩), .int .i64 a, .int .i64 i] w fun e w' => e = .returned (.agg #[.int .i64 0, .int .i64 2]) ∧ Keep [] w w' := by
  have hK := Keep.alloc [] w (.cells #[.int .i64 0, .int .i64 0] 34)
  have hx := heap_alloc_new w (.cells #[.int .i64 0, .int .i64 0] 34)
  have HC := (show Hid (∀ w1, Keep [] w w1 → Calls Tryz.prog 39 #[.pointer (some ⟨hb, 0, none⟩), .int .i64 a] w1 fun e w' => e = .returned (.agg #[.int .i64 k, .int .i64 c, .int .i64 l, .bool f, .bool false]) ∧ Keep [] w1 w') from hc)
  clear hc
  go_enter Tryz.func40, Tryz.ntmps40
  go_wp2_with (first | (go_at_call 39; refine (HC.out _ hK).mono ?_; rintro e w1 ⟨rfl, hK1⟩; have hx1 := (hK1.trans (Keep.alloc [] w1 (.cells #[.int .i64 k, .int .i64 c, .int .i64 l, .bool f, .bool false] 79))).blk hx (by simp); obtain ⟨f0, f1⟩ := two_free hx1; obtain ⟨d0, d1⟩ := two_cells hx1; obtain ⟨_, g0, g1, g2, g3, g4⟩ := five_free (heap_alloc_new w1 (.cells #[.int .i64 k, .int .i64 c, .int .i64 l, .bool f, .bool false] 79))))
  obtain ⟨z, hk4⟩ := two_put hx1 (.int .i64 0) (.int .i64 2)
  refine bodyPost_ret (results_cell_row rfl _ _ w.heap.size 34 #[.int .i64 0, .int .i64 2] (0, 0) _ rfl z Tryz.underlying34 rfl (by kernel_rfl)) rfl ?_
  exact ⟨rfl, ((((hK.trans hK1).trans (Keep.alloc [] w1 _)).mono (T := [w.heap.size]) (by simp)).trans hk4).drop (by simp)⟩
set_option maxRecDepth 100000 in
set_option maxHeartbeats 1600000 in
theorem rfield_arg (a i : Int) (k c l : Int) (f : Bool) (w : World) (hc : ∀ w1, Keep [] w w1 → Calls Tryz.prog 39 #[.pointer (some ⟨hb, 0, none⟩), .int .i64 a] w1 fun e w' => e = .returned (.agg #[.int .i64 k, .int .i64 c, .int .i64 l, .bool f, .bool true]) ∧ Keep [] w1 w') (hi : ¬ (0 ≤ i ∧ i < l)) :
    Calls Tryz.prog 40 #[.pointer (some ⟨hb, 0, none⟩), .int .i64 a, .int .i64 i] w fun e w' => e = .returned (.agg #[.int .i64 0, .int .i64 1]) ∧ Keep [] w w' := by
  have hK := Keep.alloc [] w (.cells #[.int .i64 0, .int .i64 0] 34)
  have hx := heap_alloc_new w (.cells #[.int .i64 0, .int .i64 0] 34)
  have HC := (show Hid (∀ w1, Keep [] w w1 → Calls Tryz.prog 39 #[.pointer (some ⟨hb, 0, none⟩), .int .i64 a] w1 fun e w' => e = .returned (.agg #[.int .i64 k, .int .i64 c, .int .i64 l, .bool f, .bool true]) ∧ Keep [] w1 w') from hc)
  clear hc
  by_cases h0 : i < 0
  · clear hi
    go_enter Tryz.func40, Tryz.ntmps40
    go_wp2_with (first | (go_at_call 39; refine (HC.out _ hK).mono ?_; rintro e w1 ⟨rfl, hK1⟩; have hx1 := (hK1.trans (Keep.alloc [] w1 (.cells #[.int .i64 k, .int .i64 c, .int .i64 l, .bool f, .bool true] 79))).blk hx (by simp); obtain ⟨f0, f1⟩ := two_free hx1; obtain ⟨d0, d1⟩ := two_cells hx1; obtain ⟨_, g0, g1, g2, g3, g4⟩ := five_free (heap_alloc_new w1 (.cells #[.int .i64 k, .int .i64 c, .int .i64 l, .bool f, .bool true] 79))))
    obtain ⟨z, hk4⟩ := two_put hx1 (.int .i64 0) (.int .i64 1)
    refine bodyPost_ret (results_cell_row rfl _ _ w.heap.size 34 #[.int .i64 0, .int .i64 1] (0, 0) _ rfl z Tryz.underlying34 rfl (by kernel_rfl)) rfl ?_
    exact ⟨rfl, ((((hK.trans hK1).trans (Keep.alloc [] w1 _)).mono (T := [w.heap.size]) (by simp)).trans hk4).drop (by simp)⟩
  · have h1 : l ≤ i := by omega
    clear hi
    go_enter Tryz.func40, Tryz.ntmps40
    go_wp2_with (first | (go_at_call 39; refine (HC.out _ hK).mono ?_; rintro e w1 ⟨rfl, hK1⟩; have hx1 := (hK1.trans (Keep.alloc [] w1 (.cells #[.int .i64 k, .int .i64 c, .int .i64 l, .bool f, .bool true] 79))).blk hx (by simp); obtain ⟨f0, f1⟩ := two_free hx1; obtain ⟨d0, d1⟩ := two_cells hx1; obtain ⟨_, g0, g1, g2, g3, g4⟩ := five_free (heap_alloc_new w1 (.cells #[.int .i64 k, .int .i64 c, .int .i64 l, .bool f, .bool true] 79))))
    obtain ⟨z, hk4⟩ := two_put hx1 (.int .i64 0) (.int .i64 1)
    refine bodyPost_ret (results_cell_row rfl _ _ w.heap.size 34 #[.int .i64 0, .int .i64 1] (0, 0) _ rfl z Tryz.underlying34 rfl (by kernel_rfl)) rfl ?_
    exact ⟨rfl, ((((hK.trans hK1).trans (Keep.alloc [] w1 _)).mono (T := [w.heap.size]) (by simp)).trans hk4).drop (by simp)⟩
set_option maxRecDepth 100000 in
set_option maxHeartbeats 1600000 in
theorem rfield_yes {mb : Nat} (b j p n : Nat) (x k c l : Int) (f : Bool) (w : World) (h : Has w0 F0 (rrawA hb mb ws kd ds) w) (hc : ∀ w1, Keep [] w w1 → Calls Tryz.prog 39 #[.pointer (some ⟨hb, 0, none⟩), .int .i64 b] w1 fun e w' => e = .returned (.agg #[.int .i64 k, .int .i64 c, .int .i64 l, .bool f, .bool true]) ∧ Keep [] w1 w') (hj : (j : Int) < l) (hb0 : b ≤ 20000) (hl : l ≤ 1023) (hp : b + 1 + j = p) (hn : 64 * kd.length = n) (hpn : p < n) (hx : ws[p]?.getD 0 = x) :
    Calls Tryz.prog 40 #[.pointer (some ⟨hb, 0, none⟩), .int .i64 b, .int .i64 j] w fun e w' => e = .returned (.agg #[.int .i64 x, .int .i64 0]) ∧ Keep [] w w' := by
  have hK := Keep.alloc [] w (.cells #[.int .i64 0, .int .i64 0] 34)
  have hy := heap_alloc_new w (.cells #[.int .i64 0, .int .i64 0] 34)
  have HC := (show Hid (∀ w1, Keep [] w w1 → Calls Tryz.prog 39 #[.pointer (some ⟨hb, 0, none⟩), .int .i64 b] w1 fun e w' => e = .returned (.agg #[.int .i64 k, .int .i64 c, .int .i64 l, .bool f, .bool true]) ∧ Keep [] w1 w') from hc)
  have HX := (show Hid (Has w0 F0 (rrawA hb mb ws kd ds) w) from h)
  have HN := (show Hid (64 * kd.length = n) from hn)
  have HV := (show Hid (ws[p]?.getD 0 = x) from hx)
  have hd : decide (l ≤ (j : Int)) = false := by rw [decide_eq_false_iff_not]; omega
  have hd0 : decide ((j : Int) < 0) = false := by rw [decide_eq_false_iff_not]; omega
  have hpi : (b : Int) + 1 + j = p := by omega
  have hpb : (p : Int) < n := by omega
  clear hc h hn hx hp
  go_enter Tryz.func40, Tryz.ntmps40
  go_upto_region 6 with (first | (go_at_call 39; refine (HC.out _ hK).mono ?_; rintro e w1 ⟨rfl, hK1⟩; obtain ⟨_, g0, g1, g2, g3, g4⟩ := five_free (heap_alloc_new w1 (.cells #[.int .i64 k, .int .i64 c, .int .i64 l, .bool f, .bool true] 79))))
  have hKa := (hK.trans hK1).trans (Keep.alloc [] w1 (.cells #[.int .i64 k, .int .i64 c, .int .i64 l, .bool f, .bool true] 79))
  have hx1 := (hK1.trans (Keep.alloc [] w1 (.cells #[.int .i64 k, .int .i64 c, .int .i64 l, .bool f, .bool true] 79))).blk hy (by simp)
  obtain ⟨q0, _, ⟨gw, q1, q2⟩, _⟩ := (HX.out.keep0 hKa).rcells
  have q3 := (q2 p (by rw [HN.out]; exact hpn)).1
  rw [HV.out] at q3
  rw [HN.out] at q1
  clear q2 g0 g1 g2 g3 g4
  generalize w1.alloc (.cells #[.int .i64 k, .int .i64 c, .int .i64 l, .bool f, .bool true] 79) = w2 at *
  obtain ⟨f0, f1⟩ := two_free hx1
  obtain ⟨d0, d1⟩ := two_cells hx1
  go_wp2_with fail
  obtain ⟨z, hk4⟩ := two_put hx1 (.int .i64 x) (.int .i64 0)
  refine bodyPost_ret (results_cell_row rfl _ _ w.heap.size 34 #[.int .i64 x, .int .i64 0] (0, 0) _ rfl z Tryz.underlying34 rfl (by kernel_rfl)) rfl ?_
  exact ⟨rfl, ((hKa.mono (T := [w.heap.size]) (by simp)).trans hk4).drop (by simp)⟩
theorem placeT_no {a i E : Int} {p : Nat} (hp : PlaceT kd ws a i p E) (hE : E = 1 ∨ E = 2) : (E = 2 ∧ NotAt kd a) ∨ (E = 1 ∧ ∃ b m k c l f, At kd ws a b m k c l f ∧ ¬ (0 ≤ i ∧ i < l)) := by
  cases hp with
  | none hn => exact .inl ⟨rfl, hn⟩
  | arg b m k c l f hA hi => exact .inr ⟨rfl, b, m, k, c, l, f, hA, hi⟩
  | yes b m j k c l f hA e hj hl => omega
theorem rfield (a i N E : Int) (w : World) (h : Has w0 F0 (rheapA hb ws kd ds) w) (hT : FieldT kd ws a i N E) :
    Calls Tryz.prog 40 #[.pointer (some ⟨hb, 0, none⟩), .int .i64 a, .int .i64 i] w fun e w' => e = .returned (.agg #[.int .i64 N, .int .i64 E]) ∧ Keep [] w w' := by
  have hf := h.rfine
  cases hT with
  | no E hp hE =>
    rcases placeT_no hp hE with ⟨rfl, hn⟩ | ⟨rfl, b, m, k, c, l, f, hA, hi⟩
    · exact rfield_none a i _ _ _ _ w (fun w1 K => rhead a _ _ _ _ _ w1 (h.keep0 K) (.no hn))
    · exact rfield_arg a i _ _ _ _ w (fun w1 K => rhead a _ _ _ _ _ w1 (h.keep0 K) (.yes b m k c l f hA)) hi
  | yes p hp hlt =>
    obtain ⟨mb, hr⟩ := h.rraw
    cases hp with
    | yes b m j k c l f hA e hj hl =>
      obtain ⟨rfl, e1, e2, e3, e4, e5⟩ := hA.facts hf.wf
      subst e
      have := hA.2.2.bd
      exact rfield_yes b j _ _ _ k c l f w hr (fun w1 K => rhead b _ _ _ _ _ w1 (h.keep0 K) (.yes b m k c l f hA)) hj (by omega) (by omega) rfl rfl (by rw [← hf.len]; exact hlt) rfl

set_option maxRecDepth 100000 in
set_option maxHeartbeats 1600000 in
theorem rput_no (a i x N E : Int) (w : World) (hc : Calls Tryz.prog 40 #[.pointer (some ⟨hb, 0, none⟩), .int .i64 a, .int .i64 i] w fun e w' => e = .returned (.agg #[.int .i64 N, .int .i64 E]) ∧ Keep [] w w') (hE : E ≠ 0) :
    Calls Tryz.prog 35 #[.pointer (some ⟨hb, 0, none⟩), .int .i64 a, .int .i64 i, .int .i64 x] w fun e w' => e = .returned (.int .i64 E) ∧ Keep [] w w' := by
  have HC := (show Hid (Calls Tryz.prog 40 #[.pointer (some ⟨hb, 0, none⟩), .int .i64 a, .int .i64 i] w fun e w' => e = .returned (.agg #[.int .i64 N, .int .i64 E]) ∧ Keep [] w w') from hc)
  have hd : (E == 0) = false := by simpa using hE
  clear hc
  go_enter Tryz.func35, Tryz.ntmps35
  go_wp2_with (first | (go_at_call 40; refine HC.out.mono ?_; rintro e w1 ⟨rfl, hK1⟩; obtain ⟨d0, d1⟩ := two_cells (heap_alloc_new w1 (.cells #[.int .i64 N, .int .i64 E] 34))))
  go_ret
  exact ⟨rfl, hK1.trans (Keep.alloc [] _ _)⟩
set_option maxRecDepth 100000 in
set_option maxHeartbeats 1600000 in
theorem rput_yes {mb : Nat} (b j p n : Nat) (x y : Int) (w : World) (h : Has w0 F0 (rrawA hb mb ws kd ds) w) (hc : Calls Tryz.prog 40 #[.pointer (some ⟨hb, 0, none⟩), .int .i64 b, .int .i64 j] w fun e w' => e = .returned (.agg #[.int .i64 y, .int .i64 0]) ∧ Keep [] w w') (hb0 : b ≤ 20000) (hj : j ≤ 1023) (hp : b + 1 + j = p) (hn : 64 * kd.length = n) (hpn : p < n) :
    Calls Tryz.prog 35 #[.pointer (some ⟨hb, 0, none⟩), .int .i64 b, .int .i64 j, .int .i64 x] w fun e w' => e = .returned (.int .i64 0) ∧ Has w0 F0 (rrawA hb mb (ws.set p x) kd ds) w' := by
  have HC := (show Hid (Calls Tryz.prog 40 #[.pointer (some ⟨hb, 0, none⟩), .int .i64 b, .int .i64 j] w fun e w' => e = .returned (.agg #[.int .i64 y, .int .i64 0]) ∧ Keep [] w w') from hc)
  have HX := (show Hid (Has w0 F0 (rrawA hb mb ws kd ds) w) from h)
  have HN := (show Hid (64 * kd.length = n) from hn)
  have hpi : (b : Int) + 1 + j = p := by omega
  have hpb : (p : Int) < n := by omega
  clear hc h hn hp
  go_enter Tryz.func35, Tryz.ntmps35
  go_upto_region 3 with (first | (go_at_call 40; refine HC.out.mono ?_; rintro e w1 ⟨rfl, hK1⟩; obtain ⟨d0, d1⟩ := two_cells (heap_alloc_new w1 (.cells #[.int .i64 y, .int .i64 0] 34))))
  have hKa := hK1.trans (Keep.alloc [] w1 (.cells #[.int .i64 y, .int .i64 0] 34))
  have hx1 := heap_alloc_new w1 (.cells #[.int .i64 y, .int .i64 0] 34)
  have h2 := HX.out.keep0 hKa
  have hs1 := hK1.size
  obtain ⟨q0, _, ⟨gw, q1, q2⟩, _⟩ := h2.rcells
  have hgn : gw < w1.heap.size := by
    obtain ⟨_, _, ⟨gw', r1, r2⟩, _⟩ := (HX.out.keep0 hK1).rcells
    have e := ((Keep.alloc [] w1 (.cells #[.int .i64 y, .int .i64 0] 34)).cell (lt_of_cell2 r1) (by simp) 0).trans r1
    rw [q1] at e
    injection e with e
    injection e with e
    injection e with e
    injection e with e
    subst e
    exact lt_of_cell2 (r2 p (by rw [HN.out]; exact hpn)).1
  obtain ⟨q3, q4⟩ := q2 p (by rw [HN.out]; exact hpn)
  generalize ws[p]?.getD 0 = o at q3
  rw [HN.out] at q1
  have HS := (show Hid (Has w0 F0 (rrawA hb mb (ws.set p x) kd ds) ((w1.alloc (.cells #[.int .i64 y, .int .i64 0] 34)).setCell ⟨gw, p, none⟩ (.int .i64 x))) from h2.rset q1 p x)
  clear q2 d0 d1 h2
  generalize w1.alloc (.cells #[.int .i64 y, .int .i64 0] 34) = w2 at *
  obtain ⟨d0, d1⟩ := two_cells hx1
  have hne : gw ≠ w1.heap.size := by omega
  generalize w1.heap.size = bx at *
  go_wp2_with fail
  go_ret
  exact ⟨rfl, HS.out⟩
theorem rput (a i x E : Int) (ws' : List Int) (w : World) (h : Has w0 F0 (rheapA hb ws kd ds) w) (hT : PutT kd ws a i x E ws') (hx : inI x) :
    Calls Tryz.prog 35 #[.pointer (some ⟨hb, 0, none⟩), .int .i64 a, .int .i64 i, .int .i64 x] w fun e w' => e = .returned (.int .i64 E) ∧ Has w0 F0 (rheapA hb ws' kd ds) w' := by
  have hfin := hT.fine h.rfine hx
  have hf := h.rfine
  cases hT with
  | no E hp hE =>
    refine (rput_no a i x 0 E w (rfield a i 0 E w h (.no E hp hE)) (by omega)).mono ?_
    rintro e w' ⟨rfl, hK⟩
    exact ⟨rfl, h.keep0 hK⟩
  | yes p hp hlt =>
    obtain ⟨mb, hr⟩ := h.rraw
    have hc := rfield a i _ 0 w h (.yes p hp hlt)
    cases hp with
    | yes b m j k c l f hA e hj hl =>
      obtain ⟨rfl, e1, e2, e3, e4, e5⟩ := hA.facts hf.wf
      subst e
      have := hA.2.2.bd
      refine (rput_yes b j _ _ x _ w hr hc (by omega) (by omega) rfl rfl (by rw [← hf.len]; exact hlt)).mono ?_
      rintro e w' ⟨rfl, hX⟩
      exact ⟨rfl, hX.rheap hfin⟩
end

end Go.Proofs.YtamcoejlghfleaaGreat

/-
  The document's own heap: May, Make.
-/
namespace Go.Proofs.YtamcoejlghfleaaGreat
open Go.RowKit

/-- A block beside something is written. -/
theorem Has.block {w0 w w' : World} {F0 : List Nat} {A : Asn} {b : Nat} {o o' : Obj} (h : Has w0 F0 (A.star (blockA b o)) w) (K : Keep [b] w w') (ho : w'.heap[b]? = some o') : Has w0 F0 (A.star (blockA b o')) w' :=
  (Has.left h.comm (A' := blockA b o') (fun F e => ⟨[b], ⟨rfl, ho⟩, by rw [e.1]; exact K, fun k hk => by rw [e.1]; exact .inl hk⟩)).comm
theorem Has.blk {w0 w : World} {F0 : List Nat} {A : Asn} {b : Nat} {o : Obj} (h : Has w0 F0 (A.star (blockA b o)) w) : w.heap[b]? = some o := h.snd.fact (fun _ h => h.2)
theorem Has.moreBlock {w0 w : World} {F0 : List Nat} {A : Asn} (h : Has w0 F0 A w) (o : Obj) : Has w0 F0 (A.star (blockA w.heap.size o)) (w.alloc o) :=
  h.more (Keep.alloc [] w o) ⟨rfl, heap_alloc_new w o⟩ (fun k hk => by simp at hk; omega)
theorem Has.rapart {w0 w : World} {F0 : List Nat} {hb mb b gw n : Nat} {ws : List Int} {kd : List PK} {ds : List (Int × List Int)} {o : Obj} (h : Has w0 F0 ((rrawA hb mb ws kd ds).star (blockA b o)) w) (hc : w.cell? ⟨mb, 0, none⟩ = some (.slice (some ⟨gw, 0, none⟩) n n)) : gw ≠ b ∧ mb ≠ b ∧ hb ≠ b := by
  refine h.fact (fun F h => ?_)
  obtain ⟨F1, F2, _, ⟨F3, F4, hF, h1, ⟨L, h2⟩, _⟩, ⟨rfl, _⟩, hd⟩ := h
  obtain ⟨f0, f1, _⟩ := h2.f
  have e := h2.c0
  rw [hc] at e
  have e2 : gw = L.gw := by injection e with e; injection e with e; injection e with e; injection e
  subst e2
  refine ⟨fun e => ?_, fun e => ?_, fun e => ?_⟩
  · exact hd L.gw ((hF _).2 (.inr f1)) (by simp [e])
  · exact hd mb ((hF _).2 (.inr f0)) (by simp [e])
  · exact hd hb ((hF _).2 (.inl h1.mem)) (by simp [e])

section
variable {w0 : World} {F0 : List Nat} {hb : Nat} {ws : List Int} {kd : List PK} {ds : List (Int × List Int)}
set_option maxRecDepth 100000 in
set_option maxHeartbeats 1600000 in
theorem rmay9_arg (k c l : Int) (f : Bool) (w : World) (hm : (mayH k c l f && !f) = false) :
    Calls Tryz.prog 59 #[.pointer (some ⟨hb, 0, none⟩), .agg #[.int .i64 k, .int .i64 c, .int .i64 l, .bool f]] w fun e w' => e = .returned (.int .i64 1) ∧ Keep [] w w' := by
  have hK := Keep.alloc [] w (.cells #[.int .i64 k, .int .i64 c, .int .i64 l, .bool f] 67)
  have hx := heap_alloc_new w (.cells #[.int .i64 k, .int .i64 c, .int .i64 l, .bool f] 67)
  cases hmm : mayH k c l f with
  | false =>
    have HM := (show Hid (mayH k c l f = false) from hmm)
    clear hm hmm
    go_enter Tryz.func59, Tryz.ntmps59
    go_wp2_with (first | (go_at_call 82; refine (rmayh_any k c l f _).mono ?_; rw [HM.out]; rintro e w1 ⟨rfl, hK1⟩))
    go_ret
    exact ⟨rfl, hK.trans hK1⟩
  | true =>
    have HM := (show Hid (mayH k c l f = true) from hmm)
    rw [hmm] at hm
    have hf : f = true := by simpa using hm
    subst hf
    clear hm hmm
    go_enter Tryz.func59, Tryz.ntmps59
    go_wp2_with (first | (go_at_call 82; refine (rmayh_any k c l true _).mono ?_; rw [HM.out]; rintro e w1 ⟨rfl, hK1⟩; obtain ⟨g0, g1, g2, g3⟩ := four_cells (hK1.blk hx (by simp))))
    go_ret
    exact ⟨rfl, hK.trans hK1⟩
set_option maxRecDepth 100000 in
set_option maxHeartbeats 1600000 in
theorem rmay9_fits {mb : Nat} (k c l E : Int) (w : World) (h : Has w0 F0 (rrawA hb mb ws kd ds) w) (hm : mayH k c l false = true) (hT : FitsT ds k c l E) :
    Calls Tryz.prog 59 #[.pointer (some ⟨hb, 0, none⟩), .agg #[.int .i64 k, .int .i64 c, .int .i64 l, .bool false]] w fun e w' => e = .returned (.int .i64 E) ∧ Keep [] w w' := by
  have hK := Keep.alloc [] w (.cells #[.int .i64 k, .int .i64 c, .int .i64 l, .bool false] 67)
  have hx := heap_alloc_new w (.cells #[.int .i64 k, .int .i64 c, .int .i64 l, .bool false] 67)
  have HX := (show Hid (Has w0 F0 (rrawA hb mb ws kd ds) (w.alloc (.cells #[.int .i64 k, .int .i64 c, .int .i64 l, .bool false] 67))) from h.keep0 hK)
  have HM := (show Hid (mayH k c l false = true) from hm)
  have hbd := mayH_bd hm
  have hc1 : k = 1 → 1 ≤ c := by
    intro e; subst e; rw [mayH_1] at hm; unfold inB at hm; simp at hm; omega
  clear h hm
  cases hT with
  | other hk =>
    have hd : (k == 1) = false := by simpa using hk
    clear hc1
    go_enter Tryz.func59, Tryz.ntmps59
    go_wp2_with (first | (go_at_call 82; refine (rmayh_any k c l false _).mono ?_; rw [HM.out]; rintro e w1 ⟨rfl, hK1⟩; obtain ⟨g0, g1, g2, g3⟩ := four_cells (hK1.blk hx (by simp))))
    go_ret
    exact ⟨rfl, hK.trans hK1⟩
  | none hk hc =>
    subst hk
    have hc2 : (ds.length : Int) < c := by have := hc1 rfl; omega
    have hd : decide ((ds.length : Int) < c) = true := decide_eq_true hc2
    obtain ⟨n, hn⟩ : ∃ n, ds.length = n := ⟨_, rfl⟩
    have HN := (show Hid (ds.length = n) from hn)
    rw [hn] at hc2 hd
    clear hc hc1 hn
    go_enter Tryz.func59, Tryz.ntmps59
    go_upto_region 4 with (first | (go_at_call 82; refine (rmayh_any 1 c l false _).mono ?_; rw [HM.out]; rintro e w1 ⟨rfl, hK1⟩; obtain ⟨g0, g1, g2, g3⟩ := four_cells (hK1.blk hx (by simp))))
    obtain ⟨_, ⟨va, vc, q1⟩, _⟩ := (HX.out.keep0 hK1).rcells
    rw [HN.out] at q1
    go_quiet (fail)
    go_wp2_with fail
    go_ret
    exact ⟨rfl, (hK.trans hK1).trans (Keep.drewN [] _ _)⟩
  | arg i n L hk hci hi hln =>
    subst hk
    have hin : i < ds.length := by
      rcases Nat.lt_or_ge i ds.length with h | h
      · exact h
      · rw [List.getElem?_eq_none h] at hi; cases hi
    obtain ⟨g, vc, ao, cp, r0, r1, r2, r3, r4⟩ := HX.out.rclass hi
    have HRC := (show Hid (∀ w1, Keep [] (w.alloc (.cells #[.int .i64 1, .int .i64 c, .int .i64 l, .bool false] 67)) w1 → w1.cell? ⟨hb, 1, none⟩ = some (.slice (some ⟨g, 0, none⟩) ds.length vc) ∧ w1.cell? ⟨g, i * 2, none⟩ = some (.int .i64 n)) from fun w1 K => ⟨(K.cell (lt_of_cell2 r0) (by simp) 1).trans r0, (K.cell (lt_of_cell2 r1) (by simp) (i * 2)).trans r1⟩)
    obtain ⟨q, hn⟩ : ∃ q, ds.length = q := ⟨_, rfl⟩
    rw [hn] at hin HRC
    have hci2 : c - 1 = i := by omega
    have hd : decide ((q : Int) < c) = false := decide_eq_false (by omega)
    have hii : (i : Int) < q := by omega
    have hi0 : (0 : Int) ≤ (i : Int) := by omega
    have hnl : ¬ n = l := fun e => hln e.symm
    have hnl2 : (n == l) = false := by simpa using hnl
    have hnl3 : (n != l) = true := by simpa using hnl
    clear hi r0 r1 r2 r3 r4 hn hc1 hci hln hnl
    go_enter Tryz.func59, Tryz.ntmps59
    go_upto_region 4 with (first | (go_at_call 82; refine (rmayh_any 1 c l false _).mono ?_; rw [HM.out]; rintro e w1 ⟨rfl, hK1⟩; obtain ⟨g0, g1, g2, g3⟩ := four_cells (hK1.blk hx (by simp))))
    obtain ⟨q1, q2⟩ := HRC.out w1 hK1
    go_quiet (fail)
    go_wp2_with fail
    go_quiet (fail)
    go_wp2_with fail
    go_ret
    exact ⟨rfl, (hK.trans hK1).trans (by first | exact Keep.drewN [] _ _ | exact (Keep.drewN [] _ _).trans (Keep.drewN [] _ _))⟩
  | yes i L hk hci hi =>
    subst hk
    have hin : i < ds.length := by
      rcases Nat.lt_or_ge i ds.length with h | h
      · exact h
      · rw [List.getElem?_eq_none h] at hi; cases hi
    obtain ⟨g, vc, ao, cp, r0, r1, r2, r3, r4⟩ := HX.out.rclass hi
    have HRC := (show Hid (∀ w1, Keep [] (w.alloc (.cells #[.int .i64 1, .int .i64 c, .int .i64 l, .bool false] 67)) w1 → w1.cell? ⟨hb, 1, none⟩ = some (.slice (some ⟨g, 0, none⟩) ds.length vc) ∧ w1.cell? ⟨g, i * 2, none⟩ = some (.int .i64 l)) from fun w1 K => ⟨(K.cell (lt_of_cell2 r0) (by simp) 1).trans r0, (K.cell (lt_of_cell2 r1) (by simp) (i * 2)).trans r1⟩)
    obtain ⟨q, hn⟩ : ∃ q, ds.length = q := ⟨_, rfl⟩
    rw [hn] at hin HRC
    have hci2 : c - 1 = i := by omega
    have hd : decide ((q : Int) < c) = false := decide_eq_false (by omega)
    have hii : (i : Int) < q := by omega
    have hi0 : (0 : Int) ≤ (i : Int) := by omega
    clear hi r0 r1 r2 r3 r4 hn hc1 hci
    go_enter Tryz.func59, Tryz.ntmps59
    go_upto_region 4 with (first | (go_at_call 82; refine (rmayh_any 1 c l false _).mono ?_; rw [HM.out]; rintro e w1 ⟨rfl, hK1⟩; obtain ⟨g0, g1, g2, g3⟩ := four_cells (hK1.blk hx (by simp))))
    obtain ⟨q1, q2⟩ := HRC.out w1 hK1
    go_quiet (fail)
    go_wp2_with fail
    go_quiet (fail)
    go_wp2_with fail
    go_ret
    exact ⟨rfl, (hK.trans hK1).trans (by first | exact Keep.drewN [] _ _ | exact (Keep.drewN [] _ _).trans (Keep.drewN [] _ _))⟩
end

end Go.Proofs.YtamcoejlghfleaaGreat

/-
  The document's own heap: Make.
-/
namespace Go.Proofs.YtamcoejlghfleaaGreat
open Go.RowKit

/-- What is owned, as a list that later worlds keep. -/
theorem Has.fix {w0 w : World} {F0 : List Nat} {A : Asn} (h : Has w0 F0 A w) : ∃ F, (∀ k, k ∈ F → k < w.heap.size) ∧ Upd w0 w F0 F ∧ ∀ wz, Keep [] w wz → A.at' wz F := by
  obtain ⟨F, h1, u⟩ := h
  exact ⟨F, A.lt h1, u, fun wz K => A.keep h1 K (by simp)⟩
theorem Has.unfix {w0 w wz w4 : World} {F0 F : List Nat} {A : Asn} (u : Upd w0 w F0 F) (K : Keep [] w wz) (h : Has wz F A w4) : Has w0 F0 A w4 := by
  obtain ⟨F', h1, u'⟩ := h
  exact ⟨F', h1, (u.trans (Upd.refl K)).trans u'⟩
/-- The same, beside a block that was made ahead of the call and is written behind it. -/
theorem Has.unfixB {w0 w wz w4 w5 : World} {F0 F : List Nat} {A : Asn} {b : Nat} {o : Obj} (u : Upd w0 w F0 F) (hF : ∀ k, k ∈ F → k < w.heap.size) (hb : w.heap.size = b) (K : Keep [] w wz) (hs : b < wz.heap.size) (h : Has wz F A w4) (K5 : Keep [b] w4 w5) (ho : w5.heap[b]? = some o) : Has w0 F0 (A.star (blockA b o)) w5 := by
  obtain ⟨F', h1, u'⟩ := h
  have hne : ∀ k, k ∈ F' → k ≠ b := by
    intro k hk
    rcases u'.grow k hk with e | e
    · have := hF k e; omega
    · omega
  have u2 := (u.trans (Upd.refl K)).trans u'
  have hs0 := u.keep.size
  refine ⟨F' ++ [b], ⟨F', [b], fun k => by simp, A.keep h1 K5 (fun k hk => by simpa using hne k hk), ⟨rfl, ho⟩, fun k hk => by simpa using hne k hk⟩, ⟨K5.os.trans u2.keep.os, K5.tape.trans u2.keep.tape, K5.output.trans u2.keep.output, Nat.le_trans u2.keep.size K5.size, fun k hk hS => ?_⟩, fun k hk => ?_⟩
  · rw [K5.block k (Nat.lt_of_lt_of_le hk u2.keep.size) (by simp; omega), u2.keep.block k hk hS]
  · simp at hk
    rcases hk with hk | rfl
    · exact u2.grow k hk
    · right; omega

section
variable {w0 : World} {F0 : List Nat} {hb : Nat} {ws : List Int} {kd : List PK} {ds : List (Int × List Int)}
set_option maxRecDepth 100000 in
set_option maxHeartbeats 1600000 in
theorem rmake_no (k c l E : Int) (f : Bool) (w : World) (hc : ∀ w1, Keep [] w w1 → Calls Tryz.prog 59 #[.pointer (some ⟨hb, 0, none⟩), .agg #[.int .i64 k, .int .i64 c, .int .i64 l, .bool f]] w1 fun e w' => e = .returned (.int .i64 E) ∧ Keep [] w1 w') (hE : E ≠ 0) :
    Calls Tryz.prog 30 #[.pointer (some ⟨hb, 0, none⟩), .agg #[.int .i64 k, .int .i64 c, .int .i64 l, .bool f]] w fun e w' => e = .returned (.agg #[.int .i64 0, .int .i64 E]) ∧ Keep [] w w' := by
  have hK := (Keep.alloc [] w (.cells #[.int .i64 k, .int .i64 c, .int .i64 l, .bool f] 67)).trans (Keep.alloc [] _ (.cells #[.int .i64 0, .int .i64 0] 34))
  have hx := (Keep.alloc [] (w.alloc (.cells #[.int .i64 k, .int .i64 c, .int .i64 l, .bool f] 67)) (.cells #[.int .i64 0, .int .i64 0] 34)).blk (heap_alloc_new w (.cells #[.int .i64 k, .int .i64 c, .int .i64 l, .bool f] 67)) (by simp)
  have hy := second_block w (.cells #[.int .i64 k, .int .i64 c, .int .i64 l, .bool f] 67) #[.int .i64 0, .int .i64 0] 34
  have HC := (show Hid (∀ w1, Keep [] w w1 → Calls Tryz.prog 59 #[.pointer (some ⟨hb, 0, none⟩), .agg #[.int .i64 k, .int .i64 c, .int .i64 l, .bool f]] w1 fun e w' => e = .returned (.int .i64 E) ∧ Keep [] w1 w') from hc)
  have hd : (E == 0) = false := by simpa using hE
  clear hc
  go_enter Tryz.func30, Tryz.ntmps30
  go_upto_region 1 with fail
  generalize (w.alloc (.cells #[.int .i64 k, .int .i64 c, .int .i64 l, .bool f] 67)).alloc (.cells #[.int .i64 0, .int .i64 0] 34) = w2 at *
  obtain ⟨bz, hbz⟩ : ∃ bz, w.heap.size + 1 = bz := ⟨_, rfl⟩
  have HBZ := (show Hid (w.heap.size + 1 = bz) from hbz)
  rw [hbz] at hy ⊢
  clear hbz
  obtain ⟨p0, p1, p2, p3⟩ := four_cells hx
  go_wp2_with (first | (go_at_call 59; refine (HC.out _ hK).mono ?_; rintro e w3 ⟨rfl, hK3⟩; have hy3 := hK3.blk hy (by simp); obtain ⟨d0, d1⟩ := two_cells hy3; obtain ⟨f0, f1⟩ := two_free hy3))
  obtain ⟨z, hk4⟩ := two_put hy3 (.int .i64 0) (.int .i64 E)
  refine bodyPost_ret (results_cell_row rfl _ _ bz 34 #[.int .i64 0, .int .i64 E] (0, 0) _ rfl z Tryz.underlying34 rfl (by kernel_rfl)) rfl ?_
  exact ⟨rfl, (((hK.trans hK3).mono (T := [bz]) (by simp)).trans hk4).drop (by have := HBZ.out; simp; omega)⟩

set_option maxRecDepth 100000 in
set_option maxHeartbeats 3200000 in
theorem rmake_any {mb : Nat} (k c l N E : Int) (ws' : List Int) (kd' : List PK) (w : World) (h : Has w0 F0 (rrawA hb mb ws kd ds) w) (hw : WF kd) (hm : mayH k c l false = true) (hr : AllocT kd ws (l + 1) N E ws' kd')
    (hc : ∀ w1, Keep [] w w1 → Calls Tryz.prog 59 #[.pointer (some ⟨hb, 0, none⟩), .agg #[.int .i64 k, .int .i64 c, .int .i64 l, .bool false]] w1 fun e w' => e = .returned (.int .i64 0) ∧ Keep [] w1 w')
    (hE : E = 3 ∨ E = 0) (a n : Nat) (ha : E = 0 → N = a ∧ a < n ∧ 64 * kd'.length = n) (wsr : List Int) (hs3 : E = 3 → wsr = ws') (hs0 : E = 0 → wsr = ws'.set a (putH k c l false)) :
    Calls Tryz.prog 30 #[.pointer (some ⟨hb, 0, none⟩), .agg #[.int .i64 k, .int .i64 c, .int .i64 l, .bool false]] w fun e w' => e = .returned (.agg #[.int .i64 N, .int .i64 E]) ∧ Has w0 F0 (rrawA hb mb wsr kd' ds) w' := by
  have hbd := mayH_bd hm
  have hK := (Keep.alloc [] w (.cells #[.int .i64 k, .int .i64 c, .int .i64 l, .bool false] 67)).trans (Keep.alloc [] _ (.cells #[.int .i64 0, .int .i64 0] 34))
  have hX := (h.moreBlock (.cells #[.int .i64 k, .int .i64 c, .int .i64 l, .bool false] 67)).moreBlock (.cells #[.int .i64 0, .int .i64 0] 34)
  rw [show (w.alloc (.cells #[.int .i64 k, .int .i64 c, .int .i64 l, .bool false] 67)).heap.size = w.heap.size + 1 by simp] at hX
  have HC := (show Hid (∀ w1, Keep [] w w1 → Calls Tryz.prog 59 #[.pointer (some ⟨hb, 0, none⟩), .agg #[.int .i64 k, .int .i64 c, .int .i64 l, .bool false]] w1 fun e w' => e = .returned (.int .i64 0) ∧ Keep [] w1 w') from hc)
  have HM := (show Hid (mayH k c l false = true) from hm)
  have HR := (show Hid (AllocT kd ws (l + 1) N E ws' kd') from hr)
  have HWR := (show Hid (IntKind.i64.wrap (l + 1) = l + 1) from IntWalk.i64_in _ (by omega))
  have HEE := (show Hid (E = 3 ∨ E = 0) from hE)
  have HS3 := (show Hid ((E = 3 → wsr = ws') ∧ (E = 0 → wsr = ws'.set a (putH k c l false))) from ⟨hs3, hs0⟩)
  have HAA := (show Hid (E = 0 → N = a ∧ a < n ∧ 64 * kd'.length = n) from ha)
  clear hc h hm hr hE ha hs3 hs0
  go_enter Tryz.func30, Tryz.ntmps30
  go_upto_region 1 with fail
  generalize (w.alloc (.cells #[.int .i64 k, .int .i64 c, .int .i64 l, .bool false] 67)).alloc (.cells #[.int .i64 0, .int .i64 0] 34) = w2 at *
  generalize w.heap.size + 1 = bz at *
  generalize w.heap.size = bx at *
  have HX := (show Hid (Has w0 F0 (((rrawA hb mb ws kd ds).star (blockA bx (.cells #[.int .i64 k, .int .i64 c, .int .i64 l, .bool false] 67))).star (blockA bz (.cells #[.int .i64 0, .int .i64 0] 34))) w2) from hX)
  obtain ⟨p0, p1, p2, p3⟩ := four_cells hX.fst.blk
  clear hX
  go_upto_region 4 with (first | (go_at_call 59; refine (HC.out _ hK).mono ?_; rintro e w3 ⟨rfl, hK3⟩))
  go_cut [6] from 14 to 21 (fun v wz => ∃ by', v = .pointer (some ⟨by', 0, none⟩) ∧ Hid (Has w0 F0 ((((rrawA hb mb ws' kd' ds).star (blockA bx (.cells #[.int .i64 k, .int .i64 c, .int .i64 l, .bool false] 67))).star (blockA bz (.cells #[.int .i64 0, .int .i64 0] 34))).star (blockA by' (.cells #[.int .i64 N, .int .i64 E] 34))) wz))
  case first =>
    have hX3 := HX.out.keep0 hK3
    obtain ⟨b0, _⟩ := hX3.fst.fst.rcells
    obtain ⟨r0, r1, r2, r3⟩ := four_cells hX3.fst.blk
    have hK4 := (Keep.alloc [] w3 (.cells #[.int .i64 0, .int .i64 0] 34)).trans (Keep.drew [] _)
    have hX4 := hX3.keep0 hK4
    obtain ⟨c0, _⟩ := hX4.fst.fst.rcells
    obtain ⟨s0, s1, s2, s3⟩ := four_cells hX4.fst.blk
    obtain ⟨F, hFl, hFu, hFz⟩ := hX3.fix
    have HF := (show Hid ((∀ k, k ∈ F → k < w3.heap.size) ∧ Upd w0 w3 F0 F ∧ ∀ wz, Keep [] w3 wz → (((rrawA hb mb ws kd ds).star (blockA bx (.cells #[.int .i64 k, .int .i64 c, .int .i64 l, .bool false] 67))).star (blockA bz (.cells #[.int .i64 0, .int .i64 0] 34))).at' wz F) from ⟨hFl, hFu, hFz⟩)
    have hn1 := World.new_ne _ _ b0
    have hn2 := World.new_ne _ _ r2
    clear hX3 hX4 hFl hFu hFz p0 p1 p2 p3 hK hK3 HX HC HS3 HAA HEE
    go_region_law (first | (go_simp; rw [HWR.out]; refine (has_left (Has.start (HF.out.2.2 _ (by first | exact Keep.drew [] _ | exact (Keep.alloc [] _ _).trans (Keep.drew [] _)))) (fun F hF => has_left hF (fun F hF => yalloc _ (l + 1) N E ws' kd' hF hw HR.out))).mono ?_; rintro e w4 ⟨rfl, hX4⟩; have HX4 := (show Hid (Has _ F (((rrawA hb mb ws' kd' ds).star (blockA bx (.cells #[.int .i64 k, .int .i64 c, .int .i64 l, .bool false] 67))).star (blockA bz (.cells #[.int .i64 0, .int .i64 0] 34))) w4) from hX4); obtain ⟨u0, _⟩ := hX4.fst.fst.rcells; obtain ⟨v0, v1, v2, v3⟩ := four_cells hX4.fst.blk; try (have hz := hX4.K.blk (heap_alloc_new w3 (.cells #[.int .i64 0, .int .i64 0] 34)) (fun e => by have := HF.out.1 _ e; omega); obtain ⟨y0, y1⟩ := two_cells hz; obtain ⟨z0, z1⟩ := two_free hz); clear hX4))
    all_goals first
      | (obtain ⟨hz1, hk4⟩ := two_put hz (.int .i64 N) (.int .i64 E)
         have H5 := Has.unfixB HF.out.2.1 HF.out.1 rfl hK4 (by simp) HX4.out hk4 hz1
         clear hk4 hz y0 y1 z0 z1
         generalize (w4.setCell ⟨w3.heap.size, 0, none⟩ (.int .i64 N)).setCell ⟨w3.heap.size, 1, none⟩ (.int .i64 E) = w5 at *
         generalize w3.heap.size = by' at *)
      | (have H5 := (Has.unfix HF.out.2.1 (Keep.drew [] w3) HX4.out).moreBlock (.cells #[.int .i64 N, .int .i64 E] 34)
         generalize w4.alloc (.cells #[.int .i64 N, .int .i64 E] 34) = w5 at *
         generalize w4.heap.size = by' at *)
    all_goals (
      have HH5 := (show Hid (Has w0 F0 ((((rrawA hb mb ws' kd' ds).star (blockA bx (.cells #[.int .i64 k, .int .i64 c, .int .i64 l, .bool false] 67))).star (blockA bz (.cells #[.int .i64 0, .int .i64 0] 34))).star (blockA by' (.cells #[.int .i64 N, .int .i64 E] 34))) w5) from H5)
      clear H5
      go_wp2_with fail
      go_meet
      exact ⟨by', rfl, HH5⟩)
  case rest =>
    obtain ⟨by', rfl, HH5⟩ := hcut
    obtain ⟨w5, rfl⟩ : ∃ w5, w5 = wc := ⟨_, rfl⟩
    have H5 := HH5.out
    obtain ⟨b5, _, ⟨gw, q5, t5⟩, _⟩ := H5.fst.fst.fst.rcells
    obtain ⟨g0, g1⟩ := two_cells H5.blk
    obtain ⟨x0, x1, x2, x3⟩ := four_cells H5.fst.fst.blk
    obtain ⟨d0, d1⟩ := two_cells H5.fst.blk
    obtain ⟨f0, f1⟩ := two_free H5.fst.blk
    clear H5 HX hK hK3 HC p0 p1 p2 p3
    rcases HEE.out with hE | hE
    · have HSR := (show Hid (wsr = ws') from HS3.out.1 hE)
      subst hE
      clear t5 q5 b5 HS3
      go_wp2_with fail
      obtain ⟨z, hk6⟩ := two_put HH5.out.fst.blk (.int .i64 N) (.int .i64 3)
      refine bodyPost_ret (results_cell_row rfl _ _ bz 34 #[.int .i64 N, .int .i64 3] (0, 0) _ rfl z Tryz.underlying34 rfl (by kernel_rfl)) rfl ?_
      exact ⟨rfl, by rw [HSR.out]; exact (HH5.out.fst.block hk6 z).fst.fst⟩
    · obtain ⟨hN, hlt, hn⟩ := HAA.out hE
      obtain ⟨x, hx⟩ : ∃ x, putH k c l false = x := ⟨_, rfl⟩
      have HP := (show Hid (putH k c l false = x) from hx)
      have HSR := (show Hid (wsr = ws'.set a x) from by show _ = _; rw [← hx]; exact HS3.out.2 hE)
      subst hE hN
      obtain ⟨q6, q7⟩ := t5 a (by omega)
      rw [hn] at q5
      have hni : (a : Int) < n := by omega
      have HQ := (show Hid (∀ w', Keep [] w5 w' → w'.cell? ⟨mb, 0, none⟩ = some (.slice (some ⟨gw, 0, none⟩) n n) ∧ w'.cell? ⟨hb, 0, none⟩ = some (.pointer (some ⟨mb, 0, none⟩)) ∧ w'.cell? ⟨gw, a, none⟩ = some (.int .i64 (ws'[a]?.getD 0)) ∧ w'.frozen? ⟨gw, a, none⟩ = false) from fun w' K => ⟨(K.cell (lt_of_cell2 q5) (by simp) 0).trans q5, (K.cell (lt_of_cell2 b5) (by simp) 0).trans b5, (K.cell (lt_of_cell2 q6) (by simp) a).trans q6, by
        have e := K.block gw (lt_of_cell2 q6) (by simp)
        unfold World.frozen? at q7 ⊢
        rw [e]; exact q7⟩)
      generalize ws'[a]?.getD 0 = xo at q6 HQ
      clear t5 HAA hn hx HS3
      go_wp2_with fail
      go_cut [] from 25 to 36 (fun wz => Hid (Has w0 F0 ((((rrawA hb mb (ws'.set a x) kd' ds).star (blockA bx (.cells #[.int .i64 k, .int .i64 c, .int .i64 l, .bool false] 67))).star (blockA bz (.cells #[.int .i64 0, .int .i64 0] 34))).star (blockA by' (.cells #[.int .i64 a, .int .i64 0] 34))) wz))
      case first =>
        go_region_law (first | (go_simp; refine (rputh_yes k c l false _ HM.out).mono ?_; rw [HP.out]; rintro e w6 ⟨rfl, hK6⟩; obtain ⟨m0, m1, m2, m3⟩ := HQ.out _ ((Keep.drew [] w5).trans hK6); have hH6 := (HH5.out.keep0 (Keep.drew [] w5)).keep0 hK6; have HH6 := (show Hid (Has w0 F0 ((((rrawA hb mb ws' kd' ds).star (blockA bx (.cells #[.int .i64 k, .int .i64 c, .int .i64 l, .bool false] 67))).star (blockA bz (.cells #[.int .i64 0, .int .i64 0] 34))).star (blockA by' (.cells #[.int .i64 a, .int .i64 0] 34))) w6) from hH6); obtain ⟨i0, i1⟩ := two_cells hH6.blk; obtain ⟨j0, j1, j2, j3⟩ := four_cells hH6.fst.fst.blk; clear hH6))
        all_goals (
          go_wp2_with fail
          go_meet
          exact (HH6.out.left (fun F e => (Has.start e).left (fun F e => (Has.start e).left (fun F e => (Has.start e).rset m0 a x)))))
      case rest =>
        have H7 : Has w0 F0 ((((rrawA hb mb (ws'.set a x) kd' ds).star (blockA bx (.cells #[.int .i64 k, .int .i64 c, .int .i64 l, .bool false] 67))).star (blockA bz (.cells #[.int .i64 0, .int .i64 0] 34))).star (blockA by' (.cells #[.int .i64 a, .int .i64 0] 34))) wc := hcut.out
        obtain ⟨i0, i1⟩ := two_cells H7.blk
        obtain ⟨d0, d1⟩ := two_cells H7.fst.blk
        obtain ⟨f0, f1⟩ := two_free H7.fst.blk
        have HH7 := (show Hid (Has w0 F0 ((((rrawA hb mb (ws'.set a x) kd' ds).star (blockA bx (.cells #[.int .i64 k, .int .i64 c, .int .i64 l, .bool false] 67))).star (blockA bz (.cells #[.int .i64 0, .int .i64 0] 34))).star (blockA by' (.cells #[.int .i64 a, .int .i64 0] 34))) wc) from H7)
        clear H7 HH5 HQ x0 x1 x2 x3 q5 q6 q7 b5
        go_wp2_with fail
        obtain ⟨z, hk6⟩ := two_put HH7.out.fst.blk (.int .i64 a) (.int .i64 0)
        refine bodyPost_ret (results_cell_row rfl _ _ bz 34 #[.int .i64 a, .int .i64 0] (0, 0) _ rfl z Tryz.underlying34 rfl (by kernel_rfl)) rfl ?_
        exact ⟨rfl, by rw [HSR.out]; exact (HH7.out.fst.block hk6 z).fst.fst⟩
theorem rmake (k c l N E : Int) (f : Bool) (ws' : List Int) (kd' : List PK) (w : World) (h : Has w0 F0 (rheapA hb ws kd ds) w) (hT : MakeT kd ws ds k c l f N E ws' kd') :
    Calls Tryz.prog 30 #[.pointer (some ⟨hb, 0, none⟩), .agg #[.int .i64 k, .int .i64 c, .int .i64 l, .bool f]] w fun e w' => e = .returned (.agg #[.int .i64 N, .int .i64 E]) ∧ Has w0 F0 (rheapA hb ws' kd' ds) w' := by
  have hf := h.rfine
  have hf' := (hT.fine hf).1
  obtain ⟨mb, hr⟩ := h.rraw
  cases hT with
  | arg hm => exact has_same h (rmake_no k c l 1 f w (fun w1 _ => rmay9_arg k c l f w1 hm) (by omega))
  | fits E hm e hF hE => subst e; exact has_same h (rmake_no k c l E false w (fun w1 K => rmay9_fits k c l E w1 (hr.keep0 K) hm hF) hE)
  | full hm e hF hA =>
    subst e
    refine (rmake_any k c l 0 3 ws kd w hr hf.wf hm (.no (by have := mayH_bd hm; have := room_ge (l + 1) (by omega) (by omega); omega) hA) (fun w1 K => rmay9_fits k c l 0 w1 (hr.keep0 K) hm hF) (.inl rfl) 0 0 (by omega) ws (fun _ => rfl) (by omega)).mono ?_
    rintro e w' ⟨rfl, hX⟩
    exact ⟨rfl, hX.rheap hf⟩
  | yes a b kd' hm e hF hA hb' =>
    subst e
    obtain ⟨b', hb2, h1, h2, h3, h4, h5, _⟩ := hA.spec hf.wf
    have hl := hf.len
    refine (rmake_any k c l a 0 _ kd' w hr hf.wf hm (.yes a b kd' hA hb') (fun w1 K => rmay9_fits k c l 0 w1 (hr.keep0 K) hm hF) (.inr rfl) a _ (fun _ => ⟨rfl, ?_, rfl⟩) _ (by omega) (fun _ => rfl)).mono ?_
    · have := hf'.len
      rw [List.length_set, fill0_length _ _ _ (by omega)] at this
      omega
    · rintro e w' ⟨rfl, hX⟩
      exact ⟨rfl, hX.rheap hf'⟩
end

end Go.Proofs.YtamcoejlghfleaaGreat

/-
  Package object: what Make, Final and New answer and leave.
-/
namespace Go.Proofs.YtamcoejlghfleaaGreat
open Go.RowKit

section
variable {w0 : World} {F0 : List Nat} {hb : Nat} {ws : List Int} {kd : List PK} {ds : List (Int × List Int)}

set_option maxRecDepth 100000 in
set_option maxHeartbeats 1600000 in
theorem omake_full {sb tb : Nat} (k c l : Int) (w : World) (h : Has w0 F0 (rawA hb sb tb ws kd ds) w) (hw : WF kd) (hm : mayH k c l false = true) (hT : FitsT ds k c l 0) (hl : ds.length ≤ 256) (hr : AllocT kd ws (l + 1) 0 3 ws kd) :
    Calls Tryz.prog 27 #[.pointer (some ⟨hb, 0, none⟩), .agg #[.int .i64 k, .int .i64 c, .int .i64 l, .bool false]] w fun e w' => e = .returned (.tuple #[.int .i64 0, .int .i64 3]) ∧ Has w0 F0 (rawA hb sb tb ws kd ds) w' := by
  have hK := Keep.alloc [] w (.cells #[.int .i64 k, .int .i64 c, .int .i64 l, .bool false] 67)
  have hx := heap_alloc_new w (.cells #[.int .i64 k, .int .i64 c, .int .i64 l, .bool false] 67)
  obtain ⟨g0, g1, g2, g3⟩ := four_cells hx
  have HX := (show Hid (Has w0 F0 ((rawA hb sb tb ws kd ds).star (blockA w.heap.size (.cells #[.int .i64 k, .int .i64 c, .int .i64 l, .bool false] 67))) (w.alloc (.cells #[.int .i64 k, .int .i64 c, .int .i64 l, .bool false] 67))) from h.more hK ⟨rfl, hx⟩ (fun k hk => by simp at hk; omega))
  have HM := (show Hid (mayH k c l false = true) from hm)
  have HT := (show Hid (FitsT ds k c l 0) from hT)
  have hbd := mayH_bd hm
  have HR := (show Hid (AllocT kd ws (l + 1) 0 3 ws kd) from hr)
  have HWR := (show Hid (IntKind.i64.wrap (l + 1) = l + 1) from IntWalk.i64_in _ (by omega))
  clear hm h hT hr
  go_enter Tryz.func27, Tryz.ntmps27
  go_wp2_with (first | (go_at_call 54; refine (hmay_any k c l false _).mono ?_; rw [HM.out]; rintro e w1 ⟨rfl, hK1⟩; have hx1 := hK1.blk hx (by simp); obtain ⟨d0, d1, d2, d3⟩ := four_cells hx1) | (go_at_call 55; refine (ofits k c l 0 false _ (HX.out.fst.keep0 hK1) HT.out hl).mono ?_; rintro e w2 ⟨rfl, hK2⟩))
  have hx2 := hK2.blk hx1 (by simp)
  have hX2 := ((HX.out.keep0 hK1).keep0 hK2).keep0 (Keep.drew [] w2)
  obtain ⟨b0, b1, _⟩ := hX2.fst.cells
  have HX2 := (show Hid (Has w0 F0 ((rawA hb sb tb ws kd ds).star (blockA w.heap.size (.cells #[.int .i64 k, .int .i64 c, .int .i64 l, .bool false] 67))) w2.drew) from hX2)
  obtain ⟨p0, p1, p2, p3⟩ := four_cells ((Keep.drew [] w2).blk hx2 (by simp))
  clear hX2 hx hx1 hx2 hK hK1 hK2 d0 d1 d2 d3 g0 g1 g2 g3
  go_region_held3 (fun wz => wz.cell? ⟨hb, 0, none⟩ = some (.pointer (some ⟨sb, 0, none⟩)) ∧ wz.cell? ⟨w.heap.size, 2, none⟩ = some (.int .i64 l)) (go_keep) (first | (go_at_call 56; rw [HWR.out]; refine (has_left HX2.out (fun F hF => xalloc _ (l + 1) 0 3 ws kd hF hw HR.out)).mono ?_; rintro e w3 ⟨rfl, hX3⟩; have HX3 := (show Hid (Has w0 F0 ((rawA hb sb tb ws kd ds).star (blockA w.heap.size (.cells #[.int .i64 k, .int .i64 c, .int .i64 l, .bool false] 67))) w3) from hX3); obtain ⟨u0, u1, _⟩ := hX3.fst.cells; obtain ⟨v0, v1, v2, v3⟩ := four_cells (hX3.snd.fact (fun _ h => h.2)); clear hX3))
  go_wp2_with fail
  go_ret2
  exact ⟨rfl, HX3.out.fst⟩
set_option maxRecDepth 100000 in
set_option maxHeartbeats 1600000 in
theorem omake_yes {sb tb : Nat} (k c l : Int) (a : Nat) (ws' : List Int) (kd' : List PK) (w : World) (h : Has w0 F0 (rawA hb sb tb ws kd ds) w) (hw : WF kd) (hm : mayH k c l false = true) (hT : FitsT ds k c l 0) (hl : ds.length ≤ 256) (hr : AllocT kd ws (l + 1) a 0 ws' kd') (hlt : a < ws'.length) :
    Calls Tryz.prog 27 #[.pointer (some ⟨hb, 0, none⟩), .agg #[.int .i64 k, .int .i64 c, .int .i64 l, .bool false]] w fun e w' => e = .returned (.tuple #[.int .i64 a, .int .i64 0]) ∧ Has w0 F0 (rawA hb sb tb (ws'.set a (putH k c l false)) kd' ds) w' := by
  have hK := Keep.alloc [] w (.cells #[.int .i64 k, .int .i64 c, .int .i64 l, .bool false] 67)
  have hx := heap_alloc_new w (.cells #[.int .i64 k, .int .i64 c, .int .i64 l, .bool false] 67)
  obtain ⟨g0, g1, g2, g3⟩ := four_cells hx
  have HX := (show Hid (Has w0 F0 ((rawA hb sb tb ws kd ds).star (blockA w.heap.size (.cells #[.int .i64 k, .int .i64 c, .int .i64 l, .bool false] 67))) (w.alloc (.cells #[.int .i64 k, .int .i64 c, .int .i64 l, .bool false] 67))) from h.more hK ⟨rfl, hx⟩ (fun k hk => by simp at hk; omega))
  have HM := (show Hid (mayH k c l false = true) from hm)
  have HT := (show Hid (FitsT ds k c l 0) from hT)
  have hbd := mayH_bd hm
  have HR := (show Hid (AllocT kd ws (l + 1) a 0 ws' kd') from hr)
  have HWR := (show Hid (IntKind.i64.wrap (l + 1) = l + 1) from IntWalk.i64_in _ (by omega))
  clear hm h hT hr
  go_enter Tryz.func27, Tryz.ntmps27
  go_wp2_with (first | (go_at_call 54; refine (hmay_any k c l false _).mono ?_; rw [HM.out]; rintro e w1 ⟨rfl, hK1⟩; have hx1 := hK1.blk hx (by simp); obtain ⟨d0, d1, d2, d3⟩ := four_cells hx1) | (go_at_call 55; refine (ofits k c l 0 false _ (HX.out.fst.keep0 hK1) HT.out hl).mono ?_; rintro e w2 ⟨rfl, hK2⟩))
  have hx2 := hK2.blk hx1 (by simp)
  have hX2 := ((HX.out.keep0 hK1).keep0 hK2).keep0 (Keep.drew [] w2)
  obtain ⟨b0, b1, _⟩ := hX2.fst.cells
  have HX2 := (show Hid (Has w0 F0 ((rawA hb sb tb ws kd ds).star (blockA w.heap.size (.cells #[.int .i64 k, .int .i64 c, .int .i64 l, .bool false] 67))) w2.drew) from hX2)
  obtain ⟨p0, p1, p2, p3⟩ := four_cells ((Keep.drew [] w2).blk hx2 (by simp))
  clear hX2 hx hx1 hx2 hK hK1 hK2 d0 d1 d2 d3 g0 g1 g2 g3
  go_region_held3 (fun wz => wz.cell? ⟨hb, 0, none⟩ = some (.pointer (some ⟨sb, 0, none⟩)) ∧ wz.cell? ⟨w.heap.size, 2, none⟩ = some (.int .i64 l)) (go_keep) (first | (go_at_call 56; rw [HWR.out]; refine (has_left HX2.out (fun F hF => xalloc _ (l + 1) a 0 ws' kd' hF hw HR.out)).mono ?_; rintro e w3 ⟨rfl, hX3⟩; have HX3 := (show Hid (Has w0 F0 ((rawA hb sb tb ws' kd' ds).star (blockA w.heap.size (.cells #[.int .i64 k, .int .i64 c, .int .i64 l, .bool false] 67))) w3) from hX3); obtain ⟨u0, u1, _⟩ := hX3.fst.cells; obtain ⟨v0, v1, v2, v3⟩ := four_cells (hX3.snd.fact (fun _ h => h.2)); clear hX3))
  go_wp2_with (first | (go_at_call 57; refine (osethead a k c l false _ HX3.out.fst HM.out hlt).mono ?_; rintro e w4 ⟨rfl, hX4⟩))
  go_ret2
  exact ⟨rfl, hX4⟩
theorem omake (k c l N E : Int) (f : Bool) (ws' : List Int) (kd' : List PK) (w : World) (h : Has w0 F0 (heapA hb ws kd ds) w) (hT : MakeT kd ws ds k c l f N E ws' kd') :
    Calls Tryz.prog 27 #[.pointer (some ⟨hb, 0, none⟩), .agg #[.int .i64 k, .int .i64 c, .int .i64 l, .bool f]] w fun e w' => e = .returned (.tuple #[.int .i64 N, .int .i64 E]) ∧ Has w0 F0 (heapA hb ws' kd' ds) w' := by
  have hf := h.fine
  have hf' := (hT.fine hf).1
  obtain ⟨sb, tb, hr⟩ := h.raw
  cases hT with
  | arg hm => exact has_same h (omake_arg k c l f w hm)
  | fits E hm e hF hE => subst e; exact has_same h (omake_fits k c l E w hr hm hF hE hf.few)
  | full hm e hF hA =>
    subst e
    refine (omake_full k c l w hr hf.wf hm hF hf.few (.no (by have := mayH_bd hm; have := room_ge (l + 1) (by omega) (by omega); omega) hA)).mono ?_
    rintro e w' ⟨rfl, hX⟩
    exact ⟨rfl, hX.heap hf⟩
  | yes a b kd' hm e hF hA hb' =>
    subst e
    obtain ⟨b', hb2, h1, h2, h3, h4, h5, _⟩ := hA.spec hf.wf
    have hl := hf.len
    refine (omake_yes k c l a _ kd' w hr hf.wf hm hF hf.few (.yes a b kd' hA hb') ?_).mono ?_
    · rw [fill0_length _ _ _ (by omega)]; omega
    · rintro e w' ⟨rfl, hX⟩
      exact ⟨rfl, hX.heap hf'⟩

/-! ### Final -/
end

/-! ### New -/
set_option maxHeartbeats 1600000 in
theorem onew_no (n : Int) (w : World) (h : ¬ (1 ≤ n ∧ n ≤ 256)) :
    Calls Tryz.prog 24 #[.int .i64 n] w fun e w' => e = .returned (.tuple #[.pointer none, .int .i64 1]) ∧ Keep [] w w' := by
  have HN := (show Hid (¬ (1 ≤ n ∧ n ≤ 256)) from h)
  clear h
  go_enter Tryz.func24, Tryz.ntmps24
  go_wp2_with (first | (go_at_call 51; refine (snew_no n _ HN.out).mono ?_; rintro e w1 ⟨rfl, rfl⟩))
  go_ret2
  exact ⟨rfl, Keep.refl _ _⟩
set_option maxHeartbeats 1600000 in
theorem onew (n : Nat) (w : World) (h1 : 1 ≤ n) (h2 : n ≤ 256) :
    Calls Tryz.prog 24 #[.int .i64 n] w fun e w' => ∃ hb F, e = .returned (.tuple #[.pointer (some ⟨hb, 0, none⟩), .int .i64 0]) ∧ (heapA hb (zeros (64 * n)) (freshK n) []).at' w' F ∧ Keep [] w w' ∧ ∀ k, k ∈ F → w.heap.size ≤ k := by
  go_enter Tryz.func24, Tryz.ntmps24
  go_wp2_with (first | (go_at_call 51; refine (snew_ok n _ h1 h2).mono ?_; rintro e w1 ⟨sb, F, rfl, hS, hK1, hsb, hF⟩) | (go_at_call 52; refine (tnew _).mono ?_; rintro e w2 ⟨tb, rfl, hT, hK2, htb⟩))
  go_ret2
  have hlb := hT.lt tb (by simp)
  have hlF := hS.lt
  have hs1 := hK1.size
  have hs2 := hK2.size
  have hK3 := Keep.alloc [] w2 (.cells #[.pointer (some ⟨sb, 0, none⟩), .pointer (some ⟨tb, 0, none⟩)] 91)
  refine ⟨_, w2.heap.size :: (F ++ [tb]), rfl, ⟨⟨sb, tb, [w2.heap.size], F ++ [tb], by simp, ⟨rfl, heap_alloc_new w2 _⟩, ⟨F, [tb], by simp, (hS.keep0 hK2).keep0 hK3, hT.keep hK3 (by simp), ?_⟩, ?_⟩, Fine.fresh n h1 h2⟩, (hK1.trans hK2).trans hK3, ?_⟩
  · intro k hk
    have := hlF k hk
    simp; omega
  · intro k hk
    simp at hk
    subst hk
    simp only [List.mem_append, List.mem_singleton, not_or]
    exact ⟨fun e => by have := hlF _ e; omega, by omega⟩
  · intro k hk
    simp at hk
    rcases hk with rfl | hk | rfl
    · omega
    · exact hF k hk
    · omega
/-- A new heap, younger than all there was. -/
theorem onew_has (n : Nat) (w : World) (h1 : 1 ≤ n) (h2 : n ≤ 256) :
    Calls Tryz.prog 24 #[.int .i64 n] w fun e w' => ∃ hb, e = .returned (.tuple #[.pointer (some ⟨hb, 0, none⟩), .int .i64 0]) ∧ Has w [] (heapA hb (zeros (64 * n)) (freshK n) []) w' := by
  refine (onew n w h1 h2).mono ?_
  rintro e w' ⟨hb, F, rfl, hH, hK, hF⟩
  exact ⟨hb, rfl, F, hH, hK, fun k hk => .inr (hF k hk)⟩

end Go.Proofs.YtamcoejlghfleaaGreat
