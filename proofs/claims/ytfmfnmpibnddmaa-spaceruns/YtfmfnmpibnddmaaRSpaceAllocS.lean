/-
  Alloc of the document's own space: blocks of a class.
-/
import Derived.Test.YtfmfnmpibnddmaaRSpaceAlloc
namespace Go.Proofs.Ytfmfnmpibnddmaa
open Go.RowKit

theorem kindSame {kd : List PK} {p c : Nat} {xs ys : List Bool} (hk : kat kd p = .small c xs) : kindL (kd.set p (.small c ys)) = kindL kd := by
  have hp := kat_lt kd p (by rw [hk]; simp)
  refine eq_of_getD (by simp [kindL]) (fun t => ?_)
  rw [kindL_get, kindL_get, kat_set _ _ _ _ hp]
  split
  · rename_i e; subst e; rw [hk]; rfl
  · rfl
theorem bigSame {kd : List PK} {p c : Nat} {xs ys : List Bool} (hk : kat kd p = .small c xs) : bigL (kd.set p (.small c ys)) = bigL kd := by
  have hp := kat_lt kd p (by rw [hk]; simp)
  refine eq_of_getD (by simp [bigL]) (fun t => ?_)
  rw [bigL_get, bigL_get, kat_set _ _ _ _ hp]
  split
  · rename_i e; subst e; rw [hk]; rfl
  · rfl
/-- Page j of the document's own, as one looks for room of class c. -/
theorem kind_look {kd : List PK} (c j : Nat) (hc : c < 5) : ((kat kd j).kind ≠ (c : Int) + 1 ∧ (kat kd j).has c = false) ∨ ∃ xs, kat kd j = .small c xs ∧ (kat kd j).has c = !allB xs := by
  cases e : kat kd j with
  | small d xs =>
    by_cases h : d = c
    · subst h; exact .inr ⟨xs, rfl, by simp [PK.has]⟩
    · exact .inl ⟨by show (d : Int) + 1 ≠ (c : Int) + 1; omega, by simp [PK.has, h]⟩
  | part j k =>
    cases j with
    | zero => exact .inl ⟨by show (6 : Int) ≠ (c : Int) + 1; omega, rfl⟩
    | succ j => exact .inl ⟨by show (7 : Int) ≠ (c : Int) + 1; omega, rfl⟩
  | zero => exact .inl ⟨by show (-1 : Int) ≠ (c : Int) + 1; omega, rfl⟩
  | free => exact .inl ⟨by show (0 : Int) ≠ (c : Int) + 1; omega, rfl⟩

set_option maxRecDepth 100000 in
set_option maxHeartbeats 8000000 in
theorem ralloc_old (mb c p i : Nat) (n : Int) (xs : List Bool) (L : RLay) (F : List Nat) (ws : List Int) (kd : List PK) (w : World) (h : RpAt w mb L F ws (kindL kd) (bigL kd) kd) (hw : WF kd) (hcl : classI n = c) (hc : c < 5) (hp : nextR (hasL c kd) 0 true = p) (hk : kat kd p = .small c xs) (hi : nextR xs 0 false = i) (hil : i < xs.length) :
    Calls Try.prog 19 #[.pointer (some ⟨mb, 0, none⟩), .int .i64 n] w fun e w' => e = .returned (.agg #[.int .i64 ((64 * p + i * sz c : Nat) : Int), .int .i64 0]) ∧ RpAt w' mb L F (fill0 ws (64 * p + i * sz c) (sz c)) (kindL (kd.set p (.small c (xs.set i true)))) (bigL (kd.set p (.small c (xs.set i true)))) (kd.set p (.small c (xs.set i true))) ∧ Keep F w w' := by
  obtain ⟨hc5, hxl, _⟩ := hw.small p c xs hk
  obtain ⟨z1, z2, z3, z4, z5, z6, z7⟩ := sz_facts c hc
  have hpl := kat_lt kd p (by rw [hk]; simp)
  have hpn : ∀ t, t < p → (kat kd t).has c = false := by
    rcases nextR_spec (hasL c kd) true _ 0 rfl with ⟨e, _⟩ | ⟨j, e, _, _, _, e4⟩
    · rw [hp] at e; omega
    · obtain rfl : p = j := by rw [hp] at e; omega
      intro t ht
      have := e4 t (by omega) ht
      rw [hasL_get] at this
      simpa using this
  have HPN := (show Hid (∀ t, t < p → (kat kd t).has c = false) from hpn)
  have hbl : blockI n = ((sz c : Nat) : Int) := by rw [block_class n c hcl]; exact z1
  have hle : 64 * p + i * sz c + sz c ≤ 64 * kd.length := by
    have : i * sz c + sz c ≤ 64 := by
      have h1 : (i + 1) * sz c ≤ roomOf c * sz c := Nat.mul_le_mul_right _ (by omega)
      rw [Nat.add_mul, Nat.one_mul, Nat.mul_comm (roomOf c), z2] at h1
      exact h1
    omega
  obtain ⟨s, hs⟩ : ∃ s, sz c = s := ⟨_, rfl⟩
  rw [hs] at hbl z3 z4 hle ⊢
  have HB := (show Hid (blockI n = (s : Nat)) from hbl)
  have HC := (show Hid (classI n = c) from hcl)
  have hbn : decide ((s : Int) = 0) = false := by rw [decide_eq_false_iff_not]; omega
  have hc0 : decide ((c : Int) < 0) = false := by rw [decide_eq_false_iff_not]; omega
  have HM := (show Hid (RpAt w mb L F ws (kindL kd) (bigL kd) kd) from h)
  have HKK := (show Hid (kat kd p = .small c xs) from hk)
  have HPL := (show Hid (p < kd.length) from hpl)
  have HI := (show Hid (nextR xs (0 : Int).toNat false = i) from hi)
  have HIL := (show Hid (i < xs.length) from hil)
  have f := h.f
  have ffp := h.fp p c xs hk
  have hFlt := h.lt
  have hx := heap_alloc_new w (.cells #[.int .i64 0, .int .i64 0] 46)
  have hK := Keep.alloc [] w (.cells #[.int .i64 0, .int .i64 0] 46)
  obtain ⟨bx, hbx⟩ : ∃ bx, w.heap.size = bx := ⟨_, rfl⟩
  rw [hbx] at hx
  have hbF : bx ∉ F := fun e => by have := hFlt _ e; omega
  obtain ⟨nn, hnn⟩ : ∃ nn, kd.length = nn := ⟨_, rfl⟩
  have HN := (show Hid (kd.length = nn) from hnn)
  have hn2 : nn ≤ 256 := by rw [← hnn]; exact hw.len2
  have hpnn : p < nn := by omega
  have HLE := (show Hid (64 * p + i * s + s ≤ 64 * kd.length) from hle)
  obtain ⟨xl, hxl2⟩ : ∃ xl, xs.length = xl := ⟨_, rfl⟩
  have HXL := (show Hid (xs.length = xl) from hxl2)
  have hxb : xl ≤ 32 := by omega
  have hixl : i < xl := by omega
  have HLX := (show Hid (∀ t ys, kat kd t = .small c ys → ys.length ≤ 32) from fun t ys e => by
    obtain ⟨_, hl, _⟩ := hw.small t c ys e
    have := (sz_facts c hc).2.2.2.2.2.1
    show ys.length ≤ 32
    omega)
  obtain ⟨y, hy⟩ : ∃ y : Nat, i * s = y := ⟨_, rfl⟩
  have hyb : y ≤ 32 * 32 := by rw [← hy]; exact Nat.mul_le_mul (by omega) z4
  have hyi : (i : Int) * (s : Int) = y := by rw [← hy]; exact (Int.natCast_mul i s).symm
  have hyw : IntKind.i64.wrap ((i : Int) * s) = y := by rw [hyi]; exact IntWalk.i64_in _ (by omega)
  rw [hy] at HLE ⊢
  obtain ⟨u, hu⟩ : ∃ u : Nat, 64 * p + y = u := ⟨_, rfl⟩
  have hui : (p : Int) * 64 + y = u := by omega
  have hub : u ≤ 20000 := by omega
  rw [hu] at HLE ⊢
  have hi0 : decide ((i : Int) < 0) = false := by rw [decide_eq_false_iff_not]; omega
  have hpe : decide ((p : Int) = (nn : Int)) = false := by rw [decide_eq_false_iff_not]; omega
  clear h hw hcl hp hk hi hil hpn hbl hle hs hnn hxl hxl2 hy hu hpl z1 z2 z5 z6 z7 hc5
  go_enter Try.func19, Try.ntmps19
  go_wp2_with fail
  refine (rblock_any _ _).mono ?_
  rw [HB.out]
  rintro e w1 ⟨rfl, hK1⟩
  go_wp2_with fail
  refine (rclass_any _ _).mono ?_
  rw [HC.out]
  rintro e w2 ⟨rfl, hK2⟩
  have hK3 := (hK.trans hK1).trans hK2
  have hM2 := HM.out.keep0 hK3
  have hx2 := (hK1.trans hK2).blk hx (by simp)
  have c1 := hM2.c1
  have c3 := hM2.c3
  rw [HN.out] at c1 c3
  have HM2 := (show Hid (RpAt w2 mb L F ws (kindL kd) (bigL kd) kd) from hM2)
  clear hM2 hK1 hK2 hK hx
  go_wp2_with fail
  go_loop [10] (fun v => ∃ j : Nat, v = .int .i64 j ∧ j ≤ p) (fun v => nn - (intOf v).toNat)
  case atStart => exact ⟨0, rfl, by omega⟩
  case round =>
    obtain ⟨j, rfl, hj⟩ := hrel
    have ck := HM2.out.ck (p := j) (by rw [HN.out]; omega)
    rw [kindL_get] at ck
    have hjn : decide ((j : Int) < (nn : Int)) = true := by rw [decide_eq_true_iff]; omega
    by_cases hlt : j < p
    · have HF := HPN.out j hlt
      rcases kind_look (kd := kd) c j hc with ⟨hk1, _⟩ | ⟨ys, hk1, hh⟩
      · generalize (kat kd j).kind = kv at *
        have hkd : decide (kv = (c : Int) + 1) = false := by rw [decide_eq_false_iff_not]; exact hk1
        clear HF
        go_wp2_with fail
        go_round
        case rel => exact ⟨j + 1, by go_num, by omega⟩
        case measure => simp [intOf]; omega
      · rw [hk1] at ck
        have hck : w2.cell? ⟨L.gk, j, none⟩ = some (.int .i64 ((c : Int) + 1)) := ck
        have ct : w2.cell? ⟨L.gt, j, none⟩ = some (.slice (some ⟨L.T j, 0, none⟩) ys.length ys.length) := by
          have := HM2.out.ct (p := j) (by rw [HN.out]; omega)
          rw [hk1] at this; exact this
        have hBR := HM2.out.page j c ys hk1
        have HYA := (show Hid (nextR ys (0 : Int).toNat false = -1) from by
          have ha := bool_no HF hh
          unfold allB at ha
          rcases nextR_spec ys false _ 0 rfl with ⟨e, _⟩ | ⟨l, e, _⟩
          · exact e
          · rw [e] at ha; have := of_decide_eq_true ha; omega)
        have hyl := HLX.out j ys hk1
        clear HF hh ck hk1
        go_wp2_with (first | (go_at_call 43; refine (rnext_any (L.T j) ys.length ys.length 0 false ys w2 hBR rfl (by omega) (by omega)).mono ?_; rw [HYA.out]; rintro e w' ⟨rfl, rfl⟩))
        go_round
        case rel => exact ⟨j + 1, by go_num, by omega⟩
        case measure => simp [intOf]; omega
    · obtain rfl : j = p := by omega
      have hck : w2.cell? ⟨L.gk, j, none⟩ = some (.int .i64 ((c : Int) + 1)) := by rw [HKK.out] at ck; exact ck
      have ct : w2.cell? ⟨L.gt, j, none⟩ = some (.slice (some ⟨L.T j, 0, none⟩) xl xl) := by
        have := HM2.out.ct (p := j) HPL.out
        rw [HKK.out] at this
        rw [← HXL.out]; exact this
      have hBR := HM2.out.page j c xs HKK.out
      have cx := hBR.cell HIL.out
      have fx := hBR.free i
      have hS4 := HM2.out.inner (i := i) (b := true) HKK.out
      have HS4 := (show Hid (RpAt (w2.setCell ⟨L.T j, i, none⟩ (.bool true)) mb L F ws (kindL kd) (bigL kd) (kd.set j (.small c (xs.set i true)))) from hS4)
      have hK4 := (hK3.mono (T := F) (by simp)).trans (Keep.setCell w2 (.bool true) (a := ⟨L.T j, i, none⟩) ffp)
      have hx4 := (Keep.setCell (S := F) w2 (.bool true) (a := ⟨L.T j, i, none⟩) ffp).blk hx2 hbF
      clear ck hS4
      go_wp2_with (first | (go_at_call 43; refine (rnext_any (L.T j) xl xl 0 false xs w2 hBR HXL.out (by omega) (by omega)).mono ?_; rw [HI.out]; rintro e w' ⟨rfl, rfl⟩))
      generalize w2.setCell ⟨L.T j, i, none⟩ (.bool true) = w6 at *
      refine (rfill_any mb u s L F ws _ _ _ w6 HS4.out (by rw [List.length_set]; exact HLE.out) (by rw [List.length_set, HN.out]; exact hn2)).mono ?_
      rintro e w7 ⟨rfl, hR7, hK7⟩
      have hK8 := hK4.trans (hK7.mono (fun q e => by simp at e; subst e; exact f.2.1))
      have hx7 := hK7.blk hx4 (by simp; intro e; exact hbF (e ▸ f.2.1))
      have f0 : w7.frozen? ⟨bx, 0, none⟩ = false := by simp [World.frozen?, hx7]
      have f1 : w7.frozen? ⟨bx, 1, none⟩ = false := by simp [World.frozen?, hx7]
      have g0 : w7.cell? ⟨bx, 0, none⟩ = some (.int .i64 0) := by simp [World.cell?, hx7]
      have g1 : w7.cell? ⟨bx, 1, none⟩ = some (.int .i64 0) := by simp [World.cell?, hx7]
      have HKZ := (show Hid (∀ a b, Keep F w ((w7.setCell ⟨bx, 0, none⟩ a).setCell ⟨bx, 1, none⟩ b)) from fun a b => Keep.two hK8 (by omega))
      have HRZ := (show Hid (∀ p q, RpAt ((w7.setCell ⟨bx, 0, none⟩ p).setCell ⟨bx, 1, none⟩ q) mb L F (fill0 ws u s) (kindL kd) (bigL kd) (kd.set j (.small c (xs.set i true)))) from fun p q => hR7.keep (S := [bx]) ((Keep.setCell w7 p (a := ⟨bx, 0, none⟩) (by simp)).trans (Keep.setCell _ q (a := ⟨bx, 1, none⟩) (by simp))) (fun k hq e => by simp at e; subst e; exact hbF hq))
      have HKS := (show Hid (kindL (kd.set j (.small c (xs.set i true))) = kindL kd ∧ bigL (kd.set j (.small c (xs.set i true))) = bigL kd) from ⟨kindSame HKK.out, bigSame HKK.out⟩)
      clear hR7 hK7 hK8 HS4 hx4 hK4
      go_wp2
      refine bodyPost_ret (results_cell_row rfl _ _ bx 46 #[.int .i64 u, .int .i64 0] (0, 0) _ rfl (two_set hx7) Try.underlying46 rfl (by kernel_rfl)) rfl ?_
      refine ⟨rfl, ?_, HKZ.out _ _⟩
      rw [HKS.out.1, HKS.out.2]
      exact HRZ.out _ _

end Go.Proofs.Ytfmfnmpibnddmaa
