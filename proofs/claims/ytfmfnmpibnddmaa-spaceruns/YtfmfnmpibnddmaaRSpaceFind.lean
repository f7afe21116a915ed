/-
  fill, pages and Find of the document's own space.
-/
import Derived.Test.YtfmfnmpibnddmaaRSpaceAt
import Derived.Test.YtfmfnmpibnddmaaSpaceFind
namespace Go.Proofs.Ytfmfnmpibnddmaa
open Go.RowKit

theorem fill0_step (ws : List Int) (a m : Nat) (h : a + m < ws.length) : (fill0 ws a m).set (a + m) 0 = fill0 ws a (m + 1) := by
  refine eq_of_getD (by rw [List.length_set, fill0_length _ _ _ (by omega), fill0_length _ _ _ (by omega)]) (fun t => ?_)
  rw [fill0_get _ _ _ _ (by omega)]
  by_cases e : t = a + m
  · subst e; rw [set_get_same _ _ _ (by rw [fill0_length _ _ _ (by omega)]; exact h), if_pos (by omega)]
  · rw [set_get_other _ _ _ _ (fun e' => e e'.symm), fill0_get _ _ _ _ (by omega)]
    by_cases e2 : a ≤ t ∧ t < a + m
    · rw [if_pos e2, if_pos (by omega)]
    · rw [if_neg e2, if_neg (by omega)]
theorem fill0_zero (ws : List Int) (a : Nat) : fill0 ws a 0 = ws := by simp [fill0]

set_option maxHeartbeats 1000000 in
theorem rfill_any (mb a n : Nat) (L : RLay) (F : List Nat) (ws ks ms : List Int) (kd : List PK) (w : World) (h : RpAt w mb L F ws ks ms kd) (hl : a + n ≤ 64 * kd.length) (hn : kd.length ≤ 256) :
    Calls Try.prog 42 #[.pointer (some ⟨mb, 0, none⟩), .int .i64 a, .int .i64 n] w fun e w' => e = .returned (.tuple #[]) ∧ RpAt w' mb L F (fill0 ws a n) ks ms kd ∧ Keep [L.gw] w w' := by
  have HLW := (show Hid (ws.length = 64 * kd.length) from h.lw)
  obtain ⟨m, hm⟩ : ∃ m, 64 * kd.length = m := ⟨_, rfl⟩
  have HM := (show Hid (64 * kd.length = m) from hm)
  have hmb : m ≤ 16384 := by omega
  rw [hm] at hl
  have hsum : (a : Int) + n = ((a + n : Nat) : Int) := by omega
  obtain ⟨z, hz⟩ : ∃ z, a + n = z := ⟨_, rfl⟩
  rw [hz] at hsum
  clear hm hn
  go_enter Try.func42, Try.ntmps42
  go_wp2
  go_loopw [6] (fun i wr => ∃ j : Nat, i = .int .i64 j ∧ a ≤ j ∧ j ≤ z ∧ RpAt wr mb L F (fill0 ws a (j - a)) ks ms kd ∧ Keep [L.gw] w wr) (fun i _ => z - (intOf i).toNat)
  case atStart => exact ⟨a, rfl, by omega, by omega, by rw [Nat.sub_self, fill0_zero]; exact h, Keep.refl _ _⟩
  case round =>
    obtain ⟨j, rfl, hj1, hj2, hR, hK⟩ := hrel
    by_cases hlt : j < z
    · have c0 := hR.c0
      rw [HM.out] at c0
      have cw := hR.cw (p := j) (by rw [HM.out]; omega)
      have fw := hR.rowW.free j
      have hR2 := hR.setW j 0
      have hjj : a + (j - a) = j := by omega
      have e : (fill0 ws a (j - a)).set j 0 = fill0 ws a (j + 1 - a) := by
        have := fill0_step ws a (j - a) (by rw [HLW.out, HM.out]; omega)
        rw [hjj] at this
        rw [this, show j - a + 1 = j + 1 - a by omega]
      rw [e] at hR2
      have HR2 := (show Hid (RpAt (wr.setCell ⟨L.gw, j, none⟩ (.int .i64 0)) mb L F (fill0 ws a (j + 1 - a)) ks ms kd) from hR2)
      have HK2 := (show Hid (Keep [L.gw] w (wr.setCell ⟨L.gw, j, none⟩ (.int .i64 0))) from hK.trans (Keep.setCell _ _ (by simp)))
      clear hR hR2 e hK
      go_wp2
      go_roundw
      case rel => exact ⟨j + 1, by go_num, by omega, by omega, HR2.out, HK2.out⟩
      case measure => simp [intOf]; omega
    · obtain rfl : j = z := by omega
      have HR := (show Hid (RpAt wr mb L F (fill0 ws a n) ks ms kd) from by rw [show j - a = n by omega] at hR; exact hR)
      clear hR
      go_wp2
      go_end0
      exact ⟨rfl, HR.out, hK⟩

theorem kind_taken (x : PK) : decide (x.kind ≠ 0) = x.taken := by
  cases x with
  | small c xs => exact decide_eq_true (by show (c : Int) + 1 ≠ 0; omega)
  | part j k => cases j <;> rfl
  | _ => rfl
theorem kind_eq0 (x : PK) : (x.kind = 0 ∧ x.taken = false) ∨ (x.kind ≠ 0 ∧ x.taken = true) := by
  have := kind_taken x
  by_cases e : x.kind = 0
  · rw [decide_eq_false (by simpa using e)] at this; exact .inl ⟨e, this.symm⟩
  · rw [decide_eq_true e] at this; exact .inr ⟨e, this.symm⟩

set_option maxHeartbeats 1000000 in
theorem rpages_ok (mb : Nat) (L : RLay) (F : List Nat) (ws ms : List Int) (kd : List PK) (w : World) (h : RpAt w mb L F ws (kindL kd) ms kd) (h1 : 1 ≤ kd.length) (hn : kd.length ≤ 256) :
    Calls Try.prog 40 #[.pointer (some ⟨mb, 0, none⟩)] w fun e w' => ∃ g, e = .returned (.slice (some ⟨g, 0, none⟩) kd.length kd.length) ∧ BRow w' 4 g (takenL kd) ∧ Keep [] w w' ∧ w.heap.size ≤ g := by
  obtain ⟨n, hn'⟩ : ∃ n, kd.length = n := ⟨_, rfl⟩
  have HN := (show Hid (kd.length = n) from hn')
  rw [hn'] at h1 hn ⊢
  have c1 := h.c1
  rw [hn'] at c1
  have hmk : ∀ w, (Instr.makeSlice 71 (.int .i64 (n : Int)) (.int .i64 (n : Int))).run Try.prog w = .ok (.slice (some ⟨w.heap.size, 0, none⟩) n n) (w.alloc (.cells (madeCells #[.bool false] n) 4)) :=
    fun w => run_make_row' (P := Try.prog) 71 4 (.bool false) 1 Try.underlying71 Try.infoBool rfl .i64 .i64 n (by omega) (by omega) w
  have hR := BRow.made w 4 n
  have hK := Keep.alloc [] w (.cells (madeCells #[.bool false] n) 4)
  have hz : (w.alloc (.cells (madeCells #[.bool false] n) 4)).heap.size = w.heap.size + 1 := by simp
  have HM := (show Hid (RpAt w mb L F ws (kindL kd) ms kd) from h)
  clear hn' h
  go_enter Try.func40, Try.ntmps40
  go_wp2
  obtain ⟨g, hg⟩ : ∃ g, w.heap.size = g := ⟨_, rfl⟩
  rw [hg] at hR ⊢
  generalize w.alloc (.cells (madeCells #[.bool false] n) 4) = w1 at *
  clear hmk c1 hz
  go_loopw [4] (fun i wr => ∃ (j : Nat) (xs : List Bool), i = .int .i64 j ∧ j ≤ n ∧ Hid (xs.length = n) ∧ Hid (∀ t, t < j → xs[t]?.getD false = (kat kd t).taken) ∧ BRow wr 4 g xs ∧ Keep [g] w wr) (fun i _ => n - (intOf i).toNat)
  case atStart => exact ⟨0, _, rfl, by omega, offs_length n, fun t h => by omega, hR, hK.mono (by simp)⟩
  case round =>
    obtain ⟨j, xs, rfl, hj, HL, HJ, hR2, hK2⟩ := hrel
    obtain ⟨w2, rfl⟩ : ∃ w2, w2 = wr := ⟨_, rfl⟩
    clear hR hK
    by_cases hlt : j < n
    · have hF : ∀ k, k ∈ F → k ∉ [g] := fun k e => by have := HM.out.lt k e; simp; omega
      have hM2 := HM.out.keep hK2 hF
      have c1 := hM2.c1
      rw [HN.out] at c1
      have ck := hM2.ck (p := j) (by rw [HN.out]; exact hlt)
      rw [kindL_get] at ck
      have cb := hR2.cell (i := j) (by rw [HL.out]; exact hlt)
      have fb := hR2.free j
      rcases kind_eq0 (kat kd j) with ⟨e1, e2⟩ | ⟨e1, e2⟩
      · rw [e1] at ck
        have hR3 := hR2.put j false
        have HR3 := (show Hid (BRow (w2.setCell ⟨g, j, none⟩ (.bool false)) 4 g (xs.set j false)) from hR3)
        have HK3 := (show Hid (Keep [g] w (w2.setCell ⟨g, j, none⟩ (.bool false))) from hK2.trans (Keep.setCell _ _ (by simp)))
        have HT := (show Hid ((kat kd j).taken = false) from e2)
        clear hM2 hR2 hR3 hK2 e1 e2
        go_wp2
        go_roundw
        case rel =>
          refine ⟨j + 1, xs.set j false, by go_num, by omega, by show _ = _; rw [List.length_set]; exact HL.out, fun t ht => ?_, HR3.out, HK3.out⟩
          by_cases e : t = j
          · subst e; rw [bset_same _ _ _ (by rw [HL.out]; exact hlt), HT.out]
          · rw [bset_other _ _ _ _ (fun e' => e e'.symm)]; exact HJ.out t (by omega)
        case measure => simp [intOf]; omega
      · generalize (kat kd j).kind = kv at *
        have hkd : decide (kv = 0) = false := by rw [decide_eq_false_iff_not]; exact e1
        have hkb : (kv != 0) = true := by simpa using e1
        have hR3 := hR2.put j true
        have HR3 := (show Hid (BRow (w2.setCell ⟨g, j, none⟩ (.bool true)) 4 g (xs.set j true)) from hR3)
        have HK3 := (show Hid (Keep [g] w (w2.setCell ⟨g, j, none⟩ (.bool true))) from hK2.trans (Keep.setCell _ _ (by simp)))
        have HT := (show Hid ((kat kd j).taken = true) from e2)
        clear hM2 hR2 hR3 hK2 e2
        go_wp2
        go_roundw
        case rel =>
          refine ⟨j + 1, xs.set j true, by go_num, by omega, by show _ = _; rw [List.length_set]; exact HL.out, fun t ht => ?_, HR3.out, HK3.out⟩
          by_cases e : t = j
          · subst e; rw [bset_same _ _ _ (by rw [HL.out]; exact hlt), HT.out]
          · rw [bset_other _ _ _ _ (fun e' => e e'.symm)]; exact HJ.out t (by omega)
        case measure => simp [intOf]; omega
    · obtain rfl : j = n := by omega
      have HE := (show Hid (BRow w2 4 g (takenL kd)) from by
        have : xs = takenL kd := beq_of_getD (by rw [HL.out, takenL_length, HN.out]) (fun t => by
          rw [takenL_get]
          by_cases ht : t < j
          · exact HJ.out t ht
          · rw [List.getElem?_eq_none (by rw [HL.out]; omega), kat_out kd t (by rw [HN.out]; omega)]; rfl)
        rw [← this]; exact hR2)
      have HK3 := (show Hid (Keep [] w w2) from hK2.drop (fun k e hlt => by simp at e; omega))
      clear hR2 hK2
      go_wp2
      go_ret
      exact ⟨g, rfl, HE.out, HK3.out, by omega⟩

/-- What the document's Find hands back. -/
def foundA : Option (Nat × Nat) → Value
  | some (s, n) => .agg #[.int .i64 s, .int .i64 n, .bool true]
  | none => .agg #[.int .i64 0, .int .i64 0, .bool false]
/-- A result of three cells, laid down in a block of its own. -/
theorem three_set {w : World} {bx : Nat} {t : TypeId} {v0 v1 v2 a b c : Value} (h : w.heap[bx]? = some (.cells #[v0, v1, v2] t (0, 0))) :
    (((w.setCell ⟨bx, 0, none⟩ a).setCell ⟨bx, 1, none⟩ b).setCell ⟨bx, 2, none⟩ c).heap[bx]? = some (.cells #[a, b, c] t (0, 0)) := by
  have z1 := heap_setCell_same w bx 0 _ _ a h
  have z2 := heap_setCell_same _ bx 1 _ _ b z1
  have z3 := heap_setCell_same _ bx 2 _ _ c z2
  simpa using z3

theorem Keep.three {w w2 : World} {bx : Nat} {a b c : Value} (h : Keep [] w w2) (hb : w.heap.size = bx) : Keep [] w (((w2.setCell ⟨bx, 0, none⟩ a).setCell ⟨bx, 1, none⟩ b).setCell ⟨bx, 2, none⟩ c) :=
  ((((h.mono (T := [bx]) (by simp)).trans (Keep.setCell _ _ (by simp))).trans (Keep.setCell _ _ (by simp))).trans (Keep.setCell _ _ (by simp))).drop (fun k e hlt => by simp at e; omega)
set_option maxHeartbeats 2000000 in
theorem rfind_out (mb gw n : Nat) (a : Int) (w : World) (hc0 : w.cell? ⟨mb, 0, none⟩ = some (.slice (some ⟨gw, 0, none⟩) n n)) (hmb : mb < w.heap.size) (h : ¬ (0 ≤ a ∧ a < n)) :
    Calls Try.prog 25 #[.pointer (some ⟨mb, 0, none⟩), .int .i64 a] w fun e w' => e = .returned (.agg #[.int .i64 0, .int .i64 0, .bool false]) ∧ Keep [] w w' := by
  have hx := heap_alloc_new w (.cells #[.int .i64 0, .int .i64 0, .bool false] 56)
  have hK := Keep.alloc [] w (.cells #[.int .i64 0, .int .i64 0, .bool false] 56)
  have hc1 := (hK.cell hmb (by simp) 0).trans hc0
  rcases (show a < 0 ∨ 0 ≤ a ∧ (n : Int) ≤ a by omega) with h1 | ⟨h0, h1⟩
  · have hd : decide (a < 0) = true := by rw [decide_eq_true_iff]; exact h1
    clear hc1 hc0
    go_enter Try.func25, Try.ntmps25
    go_wp2
    refine bodyPost_ret (results_cell_row rfl _ _ w.heap.size 56 #[.int .i64 0, .int .i64 0, .bool false] (0, 0) _ rfl (heap_alloc_new w _) Try.underlying56 rfl (by kernel_rfl)) rfl ?_
    exact ⟨rfl, hK⟩
  · have hd : decide (a < 0) = false := by rw [decide_eq_false_iff_not]; omega
    have hd2 : decide ((n : Int) ≤ a) = true := by rw [decide_eq_true_iff]; exact h1
    go_enter Try.func25, Try.ntmps25
    go_wp2
    refine bodyPost_ret (results_cell_row rfl _ _ w.heap.size 56 #[.int .i64 0, .int .i64 0, .bool false] (0, 0) _ rfl (heap_alloc_new w _) Try.underlying56 rfl (by kernel_rfl)) rfl ?_
    exact ⟨rfl, hK⟩
set_option maxHeartbeats 2000000 in
theorem rfind_small (mb a p n m gw gk gt q c s i r : Nat) (xs : List Bool) (w : World) (hlt : mb < w.heap.size ∧ gk < w.heap.size ∧ gt < w.heap.size ∧ q < w.heap.size)
    (hc0 : w.cell? ⟨mb, 0, none⟩ = some (.slice (some ⟨gw, 0, none⟩) m m)) (hc1 : w.cell? ⟨mb, 1, none⟩ = some (.slice (some ⟨gk, 0, none⟩) n n)) (hc3 : w.cell? ⟨mb, 3, none⟩ = some (.slice (some ⟨gt, 0, none⟩) n n))
    (hck : w.cell? ⟨gk, p, none⟩ = some (.int .i64 ((c : Int) + 1))) (hct : w.cell? ⟨gt, p, none⟩ = some (.slice (some ⟨q, 0, none⟩) xs.length xs.length)) (hR : BRow w 4 q xs) (hp : p < n) (ham : a < m) (hm : m ≤ 16384) (hc : c < 5) (hs : sz c = s)
    (h1 : (a : Int) / 64 = p) (h2 : (a : Int).tdiv 64 = p) (h3 : (a : Int) % 64 = r) (h4 : (a : Int).tmod 64 = r) (h5 : (r : Int) / s = i) (h6 : (r : Int).tdiv s = i) (hs0 : (s : Int) ≠ 0) (hi : i < xs.length) (hib : i ≤ 32) (hsb : s ≤ 32) :
    Calls Try.prog 25 #[.pointer (some ⟨mb, 0, none⟩), .int .i64 a] w fun e w' => e = .returned (if xs[i]?.getD false = true then .agg #[.int .i64 ((64 * p + i * s : Nat) : Int), .int .i64 s, .bool true] else .agg #[.int .i64 0, .int .i64 0, .bool false]) ∧ Keep [] w w' := by
  have hx := heap_alloc_new w (.cells #[.int .i64 0, .int .i64 0, .bool false] 56)
  have hK := Keep.alloc [] w (.cells #[.int .i64 0, .int .i64 0, .bool false] 56)
  have d0 := (hK.cell hlt.1 (by simp) 0).trans hc0
  have d1 := (hK.cell hlt.1 (by simp) 1).trans hc1
  have d2 := (hK.cell hlt.2.1 (by simp) p).trans hck
  have HT := (show Hid (∀ w', Keep [] w w' → w'.cell? ⟨mb, 3, none⟩ = some (.slice (some ⟨gt, 0, none⟩) n n) ∧ w'.cell? ⟨gt, p, none⟩ = some (.slice (some ⟨q, 0, none⟩) xs.length xs.length) ∧ w'.cell? ⟨q, i, none⟩ = some (.bool (xs[i]?.getD false))) from fun w' k =>
    ⟨(k.cell hlt.1 (by simp) 3).trans hc3, (k.cell hlt.2.2.1 (by simp) p).trans hct, (hR.keep k (by simp)).cell hi⟩)
  have HSL := (show Hid (sizesL[c]?.getD 0 = (s : Nat)) from by show _ = _; rw [← hs]; exact (sz_facts c hc).1)
  have hw1 : IntKind.i64.wrap ((r : Int).tdiv s) = i := by rw [h6]; exact IntWalk.i64_in _ (by omega)
  have hw2 : IntKind.i64.wrap ((r : Int) / s) = i := by rw [h5]; exact IntWalk.i64_in _ (by omega)
  obtain ⟨y, hy⟩ : ∃ y : Nat, i * s = y := ⟨_, rfl⟩
  have hyb : y ≤ 32 * 32 := by rw [← hy]; exact Nat.mul_le_mul hib hsb
  have hyi : (i : Int) * (s : Int) = y := by rw [← hy]; exact (Int.natCast_mul i s).symm
  have hyw : IntKind.i64.wrap ((i : Int) * s) = y := by rw [hyi]; exact IntWalk.i64_in _ (by omega)
  have HA := (show Hid ((p : Int) * 64 + y = ((64 * p + i * s : Nat) : Int)) from by show _ = _; rw [hy]; omega)
  have HI := (show Hid (i < xs.length) from hi)
  have hda : decide ((a : Int) < 0) = false := by rw [decide_eq_false_iff_not]; omega
  have hdb : decide ((m : Int) ≤ (a : Int)) = false := by rw [decide_eq_false_iff_not]; omega
  have hdc : decide ((1 : Int) ≤ (c : Int) + 1) = true := by rw [decide_eq_true_iff]; omega
  have hdd : decide ((c : Int) + 1 ≤ 5) = true := by rw [decide_eq_true_iff]; omega
  have hcc : (c : Int) + 1 - 1 = c := by omega
  obtain ⟨xl, hxl⟩ : ∃ xl, xs.length = xl := ⟨_, rfl⟩
  rw [hxl] at HT HI
  have hil : i < xl := HI.out
  cases hv : xs[i]?.getD false
  · rw [if_neg (by simp)]
    rw [hv] at HT
    clear hv hc0 hc1 hc3 hck hct hR hs hy hxl hi
    go_enter Try.func25, Try.ntmps25
    go_wp2_with fail
    refine (rsizes_any _).mono ?_
    rintro e w2 ⟨gz, rfl, hr, hK2, hgz⟩
    have hxz := hr.cell (i := c) hc
    rw [HSL.out] at hxz
    have hK3 := hK.trans hK2
    obtain ⟨t1, t2, t3⟩ := HT.out _ hK3
    have hx2 := hK2.blk hx (by simp)
    obtain ⟨bx, hbx⟩ : ∃ bx, w.heap.size = bx := ⟨_, rfl⟩
    rw [hbx] at hx2 ⊢
    have f0 : w2.frozen? ⟨bx, 0, none⟩ = false := by simp [World.frozen?, hx2]
    have f1 : w2.frozen? ⟨bx, 1, none⟩ = false := by simp [World.frozen?, hx2]
    have f2 : w2.frozen? ⟨bx, 2, none⟩ = false := by simp [World.frozen?, hx2]
    have g0 : w2.cell? ⟨bx, 0, none⟩ = some (.int .i64 0) := by simp [World.cell?, hx2]
    have g1 : w2.cell? ⟨bx, 1, none⟩ = some (.int .i64 0) := by simp [World.cell?, hx2]
    have g2 : w2.cell? ⟨bx, 2, none⟩ = some (.bool false) := by simp [World.cell?, hx2]
    have hltx : mb < bx ∧ gk < bx ∧ gt < bx ∧ q < bx := by omega
    have HKF := (show Hid (∀ a b c, Keep [] w (((w2.setCell ⟨bx, 0, none⟩ a).setCell ⟨bx, 1, none⟩ b).setCell ⟨bx, 2, none⟩ c)) from fun a b c => Keep.three hK3 hbx)
    go_wp2
    refine bodyPost_ret (results_cell_row rfl _ _ bx 56 #[.int .i64 0, .int .i64 0, .bool false] (0, 0) _ rfl (three_set hx2) Try.underlying56 rfl (by kernel_rfl)) rfl ?_
    exact ⟨rfl, HKF.out _ _ _⟩
  · rw [if_pos rfl, ← HA.out]
    rw [hv] at HT
    clear hv hc0 hc1 hc3 hck hct hR hs hy hxl hi
    go_enter Try.func25, Try.ntmps25
    go_wp2_with fail
    refine (rsizes_any _).mono ?_
    rintro e w2 ⟨gz, rfl, hr, hK2, hgz⟩
    have hxz := hr.cell (i := c) hc
    rw [HSL.out] at hxz
    have hK3 := hK.trans hK2
    obtain ⟨t1, t2, t3⟩ := HT.out _ hK3
    have hx2 := hK2.blk hx (by simp)
    obtain ⟨bx, hbx⟩ : ∃ bx, w.heap.size = bx := ⟨_, rfl⟩
    rw [hbx] at hx2 ⊢
    have f0 : w2.frozen? ⟨bx, 0, none⟩ = false := by simp [World.frozen?, hx2]
    have f1 : w2.frozen? ⟨bx, 1, none⟩ = false := by simp [World.frozen?, hx2]
    have f2 : w2.frozen? ⟨bx, 2, none⟩ = false := by simp [World.frozen?, hx2]
    have g0 : w2.cell? ⟨bx, 0, none⟩ = some (.int .i64 0) := by simp [World.cell?, hx2]
    have g1 : w2.cell? ⟨bx, 1, none⟩ = some (.int .i64 0) := by simp [World.cell?, hx2]
    have g2 : w2.cell? ⟨bx, 2, none⟩ = some (.bool false) := by simp [World.cell?, hx2]
    have hltx : mb < bx ∧ gk < bx ∧ gt < bx ∧ q < bx := by omega
    have HKF := (show Hid (∀ a b c, Keep [] w (((w2.setCell ⟨bx, 0, none⟩ a).setCell ⟨bx, 1, none⟩ b).setCell ⟨bx, 2, none⟩ c)) from fun a b c => Keep.three hK3 hbx)
    go_wp2
    refine bodyPost_ret (results_cell_row rfl _ _ bx 56 #[.int .i64 ((p : Int) * 64 + y), .int .i64 s, .bool true] (0, 0) _ rfl (three_set hx2) Try.underlying56 rfl (by kernel_rfl)) rfl ?_
    exact ⟨rfl, HKF.out _ _ _⟩

set_option maxHeartbeats 2000000 in
/-- A page that is of no class: down to where its larger block begins, if it is of one. -/
theorem rfind_down (mb a p n m gw gk gm : Nat) (v : Nat → Int) (k : Int) (q : Nat) (w : World) (hlt : mb < w.heap.size ∧ gk < w.heap.size ∧ gm < w.heap.size)
    (hc0 : w.cell? ⟨mb, 0, none⟩ = some (.slice (some ⟨gw, 0, none⟩) m m)) (hc1 : w.cell? ⟨mb, 1, none⟩ = some (.slice (some ⟨gk, 0, none⟩) n n)) (hc2 : w.cell? ⟨mb, 2, none⟩ = some (.slice (some ⟨gm, 0, none⟩) n n))
    (hck : ∀ t, t < n → w.cell? ⟨gk, t, none⟩ = some (.int .i64 (v t))) (hcm : w.cell? ⟨gm, q, none⟩ = some (.int .i64 k)) (hp : p < n) (hn : n ≤ 256) (ham : a < m) (h1 : (a : Int) / 64 = p) (h2 : (a : Int).tdiv 64 = p)
    (hv0 : v p < 1 ∨ 5 < v p) (hqp : q ≤ p) (hv : ∀ t, q < t → t ≤ p → v t = 7) (hq : v q ≠ 7) (hk : 0 ≤ k ∧ k ≤ 300) :
    Calls Try.prog 25 #[.pointer (some ⟨mb, 0, none⟩), .int .i64 a] w fun e w' => e = .returned (if v q = 6 then .agg #[.int .i64 ((64 * q : Nat) : Int), .int .i64 (k * 64), .bool true] else .agg #[.int .i64 0, .int .i64 0, .bool false]) ∧ Keep [] w w' := by
  have hx := heap_alloc_new w (.cells #[.int .i64 0, .int .i64 0, .bool false] 56)
  have hK := Keep.alloc [] w (.cells #[.int .i64 0, .int .i64 0, .bool false] 56)
  have d0 := (hK.cell hlt.1 (by simp) 0).trans hc0
  have d1 := (hK.cell hlt.1 (by simp) 1).trans hc1
  have d2 := (hK.cell hlt.1 (by simp) 2).trans hc2
  have d3 := (hK.cell hlt.2.1 (by simp) p).trans (hck p hp)
  have d4 := (hK.cell hlt.2.2 (by simp) q).trans hcm
  have HCK := (show Hid (∀ t, t < n → (w.alloc (.cells #[.int .i64 0, .int .i64 0, .bool false] 56)).cell? ⟨gk, t, none⟩ = some (.int .i64 (v t))) from fun t ht => (hK.cell hlt.2.1 (by simp) t).trans (hck t ht))
  have hda : decide ((a : Int) < 0) = false := by rw [decide_eq_false_iff_not]; omega
  have hdb : decide ((m : Int) ≤ (a : Int)) = false := by rw [decide_eq_false_iff_not]; omega
  have HV := (show Hid (∀ t, q < t → t ≤ p → v t = 7) from hv)
  have HA := (show Hid ((q : Int) * 64 = ((64 * q : Nat) : Int)) from by show _ = _; omega)
  obtain ⟨bx, hbx⟩ : ∃ bx, w.heap.size = bx := ⟨_, rfl⟩
  rw [hbx] at hx hlt
  obtain ⟨vp, hvp⟩ : ∃ vp, v p = vp := ⟨_, rfl⟩
  rw [hvp] at d3 hv0
  obtain ⟨vq, hvq⟩ : ∃ vq, v q = vq := ⟨_, rfl⟩
  have HVQ := (show Hid (v q = vq) from hvq)
  rw [hvq] at hq ⊢
  clear hc0 hc1 hc2 hck hcm hv hvp hvq
  have fin : ∀ (res : Value), (if vq = 6 then Value.agg #[.int .i64 ((64 * q : Nat) : Int), .int .i64 (k * 64), .bool true] else .agg #[.int .i64 0, .int .i64 0, .bool false]) = res →
      Calls Try.prog 25 #[.pointer (some ⟨mb, 0, none⟩), .int .i64 a] w fun e w' => e = .returned res ∧ Keep [] w w' := by
    intro res hres
    have HRES := (show Hid ((if vq = 6 then Value.agg #[.int .i64 ((64 * q : Nat) : Int), .int .i64 (k * 64), .bool true] else .agg #[.int .i64 0, .int .i64 0, .bool false]) = res) from hres)
    clear hres
    rcases hv0 with hv0 | hv0
    · have hdc : decide ((1 : Int) ≤ vp) = false := by rw [decide_eq_false_iff_not]; omega
      go_enter Try.func25, Try.ntmps25
      go_wp2
      generalize w.alloc (.cells #[.int .i64 0, .int .i64 0, .bool false] 56) = w1 at *
      have f0 : w1.frozen? ⟨bx, 0, none⟩ = false := by simp [World.frozen?, hx]
      have f1 : w1.frozen? ⟨bx, 1, none⟩ = false := by simp [World.frozen?, hx]
      have f2 : w1.frozen? ⟨bx, 2, none⟩ = false := by simp [World.frozen?, hx]
      have g0 : w1.cell? ⟨bx, 0, none⟩ = some (.int .i64 0) := by simp [World.cell?, hx]
      have g1 : w1.cell? ⟨bx, 1, none⟩ = some (.int .i64 0) := by simp [World.cell?, hx]
      have g2 : w1.cell? ⟨bx, 2, none⟩ = some (.bool false) := by simp [World.cell?, hx]
      have HKF := (show Hid (∀ a b c, Keep [] w (((w1.setCell ⟨bx, 0, none⟩ a).setCell ⟨bx, 1, none⟩ b).setCell ⟨bx, 2, none⟩ c)) from fun a b c => Keep.three hK hbx)
      go_loop [5] (fun i => ∃ j : Nat, i = .int .i64 j ∧ q ≤ j ∧ j ≤ p) (fun i => (intOf i).toNat)
      case atStart => exact ⟨p, rfl, hqp, by omega⟩
      case round =>
        obtain ⟨j, rfl, hqj, hjp⟩ := hrel
        by_cases hqlt : q < j
        · have hxj := HCK.out j (by omega)
          rw [HV.out j hqlt hjp] at hxj
          go_wp2
          go_round
          case rel => exact ⟨j - 1, by go_num, by omega, by omega⟩
          case measure => simp [intOf]; omega
        · obtain rfl : j = q := by omega
          have hxj := HCK.out j (by omega)
          rw [HVQ.out] at hxj
          have hd7 : decide (vq = 7) = false := by rw [decide_eq_false_iff_not]; exact hq
          have hjj : j = 0 ∨ 0 < j := by omega
          by_cases h6 : vq = 6
          · have hr := HRES.out
            rw [if_pos h6, ← HA.out] at hr
            have HR := (show Hid (Value.agg #[.int .i64 ((j : Int) * 64), .int .i64 (k * 64), .bool true] = res) from hr)
            clear hr
            subst h6
            rcases hjj with rfl | hj0
            all_goals
              go_wp2
              refine bodyPost_ret (results_cell_row rfl _ _ bx 56 #[_, .int .i64 (k * 64), .bool true] (0, 0) _ rfl (three_set hx) Try.underlying56 rfl (by kernel_rfl)) rfl ?_
              exact ⟨by have h := HR.out; first | (rw [← h]; done) | (rw [← h]; rfl), HKF.out _ _ _⟩
          · have hr := HRES.out
            rw [if_neg h6] at hr
            have HR := (show Hid (Value.agg #[.int .i64 0, .int .i64 0, .bool false] = res) from hr)
            have hd6 : decide (vq = 6) = false := by rw [decide_eq_false_iff_not]; exact h6
            clear hr
            rcases hjj with rfl | hj0
            all_goals
              go_wp2
              refine bodyPost_ret (results_cell_row rfl _ _ bx 56 #[.int .i64 0, .int .i64 0, .bool false] (0, 0) _ rfl (three_set hx) Try.underlying56 rfl (by kernel_rfl)) rfl ?_
              exact ⟨by have h := HR.out; first | (rw [← h]; done) | (rw [← h]; rfl), HKF.out _ _ _⟩
    · have hdc : decide ((1 : Int) ≤ vp) = true := by rw [decide_eq_true_iff]; omega
      have hdd : decide (vp ≤ 5) = false := by rw [decide_eq_false_iff_not]; omega
      go_enter Try.func25, Try.ntmps25
      go_wp2
      generalize w.alloc (.cells #[.int .i64 0, .int .i64 0, .bool false] 56) = w1 at *
      have f0 : w1.frozen? ⟨bx, 0, none⟩ = false := by simp [World.frozen?, hx]
      have f1 : w1.frozen? ⟨bx, 1, none⟩ = false := by simp [World.frozen?, hx]
      have f2 : w1.frozen? ⟨bx, 2, none⟩ = false := by simp [World.frozen?, hx]
      have g0 : w1.cell? ⟨bx, 0, none⟩ = some (.int .i64 0) := by simp [World.cell?, hx]
      have g1 : w1.cell? ⟨bx, 1, none⟩ = some (.int .i64 0) := by simp [World.cell?, hx]
      have g2 : w1.cell? ⟨bx, 2, none⟩ = some (.bool false) := by simp [World.cell?, hx]
      have HKF := (show Hid (∀ a b c, Keep [] w (((w1.setCell ⟨bx, 0, none⟩ a).setCell ⟨bx, 1, none⟩ b).setCell ⟨bx, 2, none⟩ c)) from fun a b c => Keep.three hK hbx)
      go_loop [5] (fun i => ∃ j : Nat, i = .int .i64 j ∧ q ≤ j ∧ j ≤ p) (fun i => (intOf i).toNat)
      case atStart => exact ⟨p, rfl, hqp, by omega⟩
      case round =>
        obtain ⟨j, rfl, hqj, hjp⟩ := hrel
        by_cases hqlt : q < j
        · have hxj := HCK.out j (by omega)
          rw [HV.out j hqlt hjp] at hxj
          go_wp2
          go_round
          case rel => exact ⟨j - 1, by go_num, by omega, by omega⟩
          case measure => simp [intOf]; omega
        · obtain rfl : j = q := by omega
          have hxj := HCK.out j (by omega)
          rw [HVQ.out] at hxj
          have hd7 : decide (vq = 7) = false := by rw [decide_eq_false_iff_not]; exact hq
          have hjj : j = 0 ∨ 0 < j := by omega
          by_cases h6 : vq = 6
          · have hr := HRES.out
            rw [if_pos h6, ← HA.out] at hr
            have HR := (show Hid (Value.agg #[.int .i64 ((j : Int) * 64), .int .i64 (k * 64), .bool true] = res) from hr)
            clear hr
            subst h6
            rcases hjj with rfl | hj0
            all_goals
              go_wp2
              refine bodyPost_ret (results_cell_row rfl _ _ bx 56 #[_, .int .i64 (k * 64), .bool true] (0, 0) _ rfl (three_set hx) Try.underlying56 rfl (by kernel_rfl)) rfl ?_
              exact ⟨by have h := HR.out; first | (rw [← h]; done) | (rw [← h]; rfl), HKF.out _ _ _⟩
          · have hr := HRES.out
            rw [if_neg h6] at hr
            have HR := (show Hid (Value.agg #[.int .i64 0, .int .i64 0, .bool false] = res) from hr)
            have hd6 : decide (vq = 6) = false := by rw [decide_eq_false_iff_not]; exact h6
            clear hr
            rcases hjj with rfl | hj0
            all_goals
              go_wp2
              refine bodyPost_ret (results_cell_row rfl _ _ bx 56 #[.int .i64 0, .int .i64 0, .bool false] (0, 0) _ rfl (three_set hx) Try.underlying56 rfl (by kernel_rfl)) rfl ?_
              exact ⟨by have h := HR.out; first | (rw [← h]; done) | (rw [← h]; rfl), HKF.out _ _ _⟩
  exact fin _ rfl

theorem kind_small (x : PK) (h : ∀ c xs, x ≠ .small c xs) : x.kind < 1 ∨ 5 < x.kind := by
  cases x with
  | small c xs => exact absurd rfl (h c xs)
  | part j k => cases j <;> simp [PK.kind]
  | _ => simp [PK.kind]
theorem down_facts {kd : List PK} (h : WF kd) (p : Nat) (hs : ∀ c xs, kat kd p ≠ .small c xs) (a : Nat) (ha : a / 64 = p) :
    ∃ q, q ≤ p ∧ (∀ t, q < t → t ≤ p → (kat kd t).kind = 7) ∧ (kat kd q).kind ≠ 7 ∧ 0 ≤ (kat kd q).big ∧ (kat kd q).big ≤ 300 ∧
      (if (kat kd q).kind = 6 then Value.agg #[.int .i64 ((64 * q : Nat) : Int), .int .i64 ((kat kd q).big * 64), .bool true] else .agg #[.int .i64 0, .int .i64 0, .bool false]) = foundA (findN kd a) := by
  cases hk : kat kd p with
  | small c xs => exact absurd hk (hs c xs)
  | zero => exact ⟨p, by omega, fun t a b => by omega, by rw [hk]; simp [PK.kind], by rw [hk]; simp [PK.big], by rw [hk]; simp [PK.big], by rw [hk, find_zero kd a (by rw [ha]; exact hk), if_neg (by simp [PK.kind])]; rfl⟩
  | free => exact ⟨p, by omega, fun t a b => by omega, by rw [hk]; simp [PK.kind], by rw [hk]; simp [PK.big], by rw [hk]; simp [PK.big], by rw [hk, find_free kd a (by rw [ha]; exact hk), if_neg (by simp [PK.kind])]; rfl⟩
  | part j k =>
    obtain ⟨g1, g2, g3, g4⟩ := h.part p j k hk
    have e0 := g4 0 (by omega)
    rw [Nat.add_zero] at e0
    have hb : (kat kd (p - j)).big = k := by rw [e0]; rfl
    refine ⟨p - j, by omega, fun t a b => ?_, by rw [e0]; simp [PK.kind], by rw [hb]; omega, by rw [hb]; omega, ?_⟩
    · have := g4 (t - (p - j)) (by omega)
      rw [show p - j + (t - (p - j)) = t by omega] at this
      obtain ⟨m, hm⟩ : ∃ m, t - (p - j) = m + 1 := ⟨t - (p - j) - 1, by omega⟩
      rw [this, hm]; rfl
    · rw [hb, if_pos (by rw [e0]; rfl), find_part kd a j k (by rw [ha]; exact hk), ha]
      show _ = Value.agg #[.int .i64 ((64 * (p - j) : Nat) : Int), .int .i64 ((64 * k : Nat) : Int), .bool true]
      rw [show ((64 * k : Nat) : Int) = (k : Int) * 64 by omega]
/-- Find of the document's own, at any integer. -/
theorem rfind_any (mb : Nat) (F : List Nat) (a : Int) (ws : List Int) (kd : List PK) (w : World) (h : IsRef w mb F ws kd) (hw : WF kd) :
    Calls Try.prog 25 #[.pointer (some ⟨mb, 0, none⟩), .int .i64 a] w fun e w' => e = .returned (foundA (findI kd a)) ∧ Keep [] w w' := by
  obtain ⟨L, h⟩ := h
  have hn2 := hw.len2
  obtain ⟨f0, f1, f2, f3, f4⟩ := h.f
  have l0 := h.lt _ f0
  have l2 := h.lt _ f2
  have l3 := h.lt _ f3
  have l4 := h.lt _ f4
  by_cases ha : 0 ≤ a ∧ a < ((64 * kd.length : Nat) : Int)
  · obtain ⟨k, rfl⟩ := Int.eq_ofNat_of_zero_le ha.1
    have e0 : findI kd (k : Int) = findN kd k := by unfold findI; rw [if_neg (by omega), Int.toNat_natCast]
    rw [e0]
    obtain ⟨p, hp⟩ : ∃ p, k / 64 = p := ⟨_, rfl⟩
    have hpl : p < kd.length := by omega
    have h1 : (k : Int) / 64 = p := by omega
    have h2 : (k : Int).tdiv 64 = p := by rw [Int.tdiv_eq_ediv_of_nonneg (by omega)]; exact h1
    by_cases hsm : ∃ c xs, kat kd p = .small c xs
    · obtain ⟨c, xs, hk⟩ := hsm
      obtain ⟨hc, hxl, _⟩ := hw.small p c xs hk
      obtain ⟨z1, z2, z3, z4, z5, z6, z7⟩ := sz_facts c hc
      obtain ⟨y1, y2, y3, y4⟩ := sz_word c k hc
      obtain ⟨r, hr⟩ : ∃ r, k % 64 = r := ⟨_, rfl⟩
      obtain ⟨i, hi⟩ : ∃ i, r / sz c = i := ⟨_, rfl⟩
      rw [hr, hi] at y2 y1
      have q1 : (k : Int) % 64 = r := by omega
      have q2 : (k : Int).tmod 64 = r := by rw [Int.tmod_eq_emod_of_nonneg (by omega)]; exact q1
      have q3 : (r : Int) / (sz c : Nat) = i := by rw [← hi]; rfl
      have q4 : (r : Int).tdiv (sz c : Nat) = i := by rw [Int.tdiv_eq_ediv_of_nonneg (by omega)]; exact q3
      have hck := h.ck hpl
      rw [kindL_get, hk] at hck
      have hct := h.ct hpl
      rw [hk] at hct
      have hR := h.page p c xs hk
      have := rfind_small mb k p kd.length (64 * kd.length) L.gw L.gk L.gt (L.T p) c (sz c) i r xs w ⟨l0, l2, l4, hR.lt⟩ h.c0 h.c1 h.c3 hck hct hR hpl (by omega) (by omega) hc rfl h1 h2 q1 q2 q3 q4 (by omega) (by omega) (by omega) z4
      refine this.mono ?_
      rintro e w' ⟨rfl, hK⟩
      refine ⟨?_, hK⟩
      rw [find_small kd k c xs (by rw [hp]; exact hk), hr, hi]
      cases xs[i]?.getD false
      · rfl
      · rw [if_pos rfl, if_pos rfl, y1, hp]; rfl
    · have hs : ∀ c xs, kat kd p ≠ .small c xs := fun c xs e => hsm ⟨c, xs, e⟩
      obtain ⟨q, g1, g2, g3, g4, g5, g6⟩ := down_facts hw p hs k hp
      have hcm := h.cm (p := q) (by omega)
      rw [bigL_get] at hcm
      rw [← g6]
      exact rfind_down mb k p kd.length (64 * kd.length) L.gw L.gk L.gm (fun t => (kat kd t).kind) (kat kd q).big q w ⟨l0, l2, l3⟩ h.c0 h.c1 h.c2 (fun t ht => by have := h.ck ht; rw [kindL_get] at this; exact this) hcm hpl hn2 (by omega) h1 h2 (kind_small _ hs) g1 g2 g3 ⟨g4, g5⟩
  · have e0 : findI kd a = none := by
      unfold findI
      split
      · rfl
      · exact find_out kd _ (by omega)
    rw [e0]
    exact rfind_out mb L.gw (64 * kd.length) a w h.c0 l0 (by omega)

end Go.Proofs.Ytfmfnmpibnddmaa
