/-
  Alloc of the document's own space: a class whose pages have no room.
-/
import Derived.Test.YtfmfnmpibnddmaaRSpaceAllocS
namespace Go.Proofs.Ytfmfnmpibnddmaa
open Go.RowKit

set_option maxRecDepth 100000 in
set_option maxHeartbeats 8000000 in
theorem ralloc_full (mb c : Nat) (n : Int) (L : RLay) (F : List Nat) (ws : List Int) (kd : List PK) (w : World) (h : RpAt w mb L F ws (kindL kd) (bigL kd) kd) (hw : WF kd) (hcl : classI n = c) (hc : c < 5) (hp : nextR (hasL c kd) 0 true = -1) (hr : runR (takenL kd) 0 1 = -1) :
    Calls Try.prog 19 #[.pointer (some ⟨mb, 0, none⟩), .int .i64 n] w fun e w' => e = .returned (.agg #[.int .i64 0, .int .i64 3]) ∧ Keep [] w w' := by
  obtain ⟨z1, z2, z3, z4, z5, z6, z7⟩ := sz_facts c hc
  have HPN := (show Hid (∀ t, (kat kd t).has c = false) from none_has hp)
  have HR := (show Hid (runR (takenL kd) 0 1 = -1) from hr)
  have hbl : blockI n = ((sz c : Nat) : Int) := by rw [block_class n c hcl]; exact z1
  obtain ⟨s, hs⟩ : ∃ s, sz c = s := ⟨_, rfl⟩
  rw [hs] at hbl z3 z4
  have HB := (show Hid (blockI n = (s : Nat)) from hbl)
  have HC := (show Hid (classI n = c) from hcl)
  have hbn : decide ((s : Int) = 0) = false := by rw [decide_eq_false_iff_not]; omega
  have hc0 : decide ((c : Int) < 0) = false := by rw [decide_eq_false_iff_not]; omega
  have HM := (show Hid (RpAt w mb L F ws (kindL kd) (bigL kd) kd) from h)
  have HW := (show Hid (WF kd) from hw)
  have hx := heap_alloc_new w (.cells #[.int .i64 0, .int .i64 0] 46)
  have hK := Keep.alloc [] w (.cells #[.int .i64 0, .int .i64 0] 46)
  obtain ⟨bx, hbx⟩ : ∃ bx, w.heap.size = bx := ⟨_, rfl⟩
  rw [hbx] at hx
  obtain ⟨nn, hnn⟩ : ∃ nn, kd.length = nn := ⟨_, rfl⟩
  have HN := (show Hid (kd.length = nn) from hnn)
  have hn2 : nn ≤ 256 := by rw [← hnn]; exact hw.len2
  have HLX := (show Hid (∀ t ys, kat kd t = .small c ys → ys.length ≤ 32) from fun t ys e => by
    obtain ⟨_, hl, _⟩ := hw.small t c ys e
    have := (sz_facts c hc).2.2.2.2.2.1
    show ys.length ≤ 32
    omega)
  clear h hw hcl hp hr hbl hs hnn z1 z2 z5 z6 z7
  go_enter Try.func19, Try.ntmps19
  go_wp2_with fail
  refine (rblock_any _ _).mono ?_
  rw [HB.out]
  rintro e w1 ⟨rfl, hK1⟩
  go_wp2_with fail
  refine (rclass_any _ _).mono ?_
  rw [HC.out]
  rintro e w2 ⟨rfl, hK2⟩
  have hK3 := (hK.trans hK1).trans hK2
  have hM2 := HM.out.keep0 hK3
  have hx2 := (hK1.trans hK2).blk hx (by simp)
  have c1 := hM2.c1
  have c3 := hM2.c3
  rw [HN.out] at c1 c3
  have HM2 := (show Hid (RpAt w2 mb L F ws (kindL kd) (bigL kd) kd) from hM2)
  clear hM2 hK1 hK2 hK hx
  go_wp2_with fail
  go_loop [10] (fun v => ∃ j : Nat, v = .int .i64 j ∧ j ≤ nn) (fun v => nn - (intOf v).toNat)
  case atStart => exact ⟨0, rfl, by omega⟩
  case round =>
    obtain ⟨j, rfl, hj⟩ := hrel
    by_cases hlt : j < nn
    · have ck := HM2.out.ck (p := j) (by rw [HN.out]; omega)
      rw [kindL_get] at ck
      have hjn : decide ((j : Int) < (nn : Int)) = true := by rw [decide_eq_true_iff]; omega
      have HF := HPN.out j
      rcases kind_look (kd := kd) c j hc with ⟨hk1, _⟩ | ⟨ys, hk1, hh⟩
      · generalize (kat kd j).kind = kv at *
        have hkd : decide (kv = (c : Int) + 1) = false := by rw [decide_eq_false_iff_not]; exact hk1
        clear HF
        go_wp2_with fail
        go_round
        case rel => exact ⟨j + 1, by go_num, by omega⟩
        case measure => simp [intOf]; omega
      · rw [hk1] at ck
        have hck : w2.cell? ⟨L.gk, j, none⟩ = some (.int .i64 ((c : Int) + 1)) := ck
        have ct : w2.cell? ⟨L.gt, j, none⟩ = some (.slice (some ⟨L.T j, 0, none⟩) ys.length ys.length) := by
          have := HM2.out.ct (p := j) (by rw [HN.out]; omega)
          rw [hk1] at this; exact this
        have hBR := HM2.out.page j c ys hk1
        have HYA := (show Hid (nextR ys (0 : Int).toNat false = -1) from by
          have ha := bool_no HF hh
          unfold allB at ha
          rcases nextR_spec ys false _ 0 rfl with ⟨e, _⟩ | ⟨l, e, _⟩
          · exact e
          · rw [e] at ha; have := of_decide_eq_true ha; omega)
        have hyl := HLX.out j ys hk1
        clear HF hh ck hk1
        go_wp2_with (first | (go_at_call 43; refine (rnext_any (L.T j) ys.length ys.length 0 false ys w2 hBR rfl (by omega) (by omega)).mono ?_; rw [HYA.out]; rintro e w' ⟨rfl, rfl⟩))
        go_round
        case rel => exact ⟨j + 1, by go_num, by omega⟩
        case measure => simp [intOf]; omega
    · obtain rfl : j = nn := by omega
      go_wp2_with fail
      refine (rpages_ok mb L F ws (bigL kd) kd w2 HM2.out HW.out.len1 HW.out.len2).mono ?_
      rw [HN.out]
      rintro e w3 ⟨g, rfl, hBR, hK4, hg⟩
      go_wp2_with fail
      refine (run_dn g j j 1 (takenL kd) w3 hBR (by rw [takenL_length, HN.out]) (by omega) (by omega)).mono ?_
      rw [HR.out]
      rintro e w' ⟨rfl, rfl⟩
      have hx1 := hK4.blk hx2 (by simp)
      have f0 : w3.frozen? ⟨bx, 0, none⟩ = false := by simp [World.frozen?, hx1]
      have f1 : w3.frozen? ⟨bx, 1, none⟩ = false := by simp [World.frozen?, hx1]
      have g0 : w3.cell? ⟨bx, 0, none⟩ = some (.int .i64 0) := by simp [World.cell?, hx1]
      have g1 : w3.cell? ⟨bx, 1, none⟩ = some (.int .i64 0) := by simp [World.cell?, hx1]
      have HK := (show Hid (∀ a b, Keep [] w ((w3.setCell ⟨bx, 0, none⟩ a).setCell ⟨bx, 1, none⟩ b)) from fun a b => Keep.two (hK3.trans hK4) (by omega))
      go_wp2
      refine bodyPost_ret (results_cell_row rfl _ _ bx 46 #[.int .i64 0, .int .i64 3] (0, 0) _ rfl (two_set hx1) Try.underlying46 rfl (by kernel_rfl)) rfl ?_
      exact ⟨rfl, HK.out _ _⟩

end Go.Proofs.Ytfmfnmpibnddmaa
