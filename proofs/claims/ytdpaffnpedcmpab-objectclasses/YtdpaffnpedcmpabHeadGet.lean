/-
  Get of package head, and the document's own words on heads.
-/
import Derived.Test.YtdpaffnpedcmpabHead
import Derived.Test.YtdpaffnpedcmpabRet
import Derived.Deep.CutRange
namespace Go.Proofs.Ytdpaffnpedcmpab
open Go.RowKit

/-- x is the word of this head. -/
def Word (x k c l : Int) (f : Bool) : Prop := mayH k c l f = true ∧ putH k c l f = x

/-- What a word says, part by part. -/
def wk (x : Int) : Int := x.tmod 8
def wc (x : Int) : Int := (x.tmod 65536).tdiv 16
def wl (x : Int) : Int := x.tdiv 65536
def wf (x : Int) : Bool := decide (8 ≤ x.tmod 16)

theorem Word.parts {x k c l : Int} {f : Bool} (h : Word x k c l f) : 0 < x ∧ x < 67108864 ∧ wk x = k ∧ wc x = c ∧ wl x = l ∧ wf x = f := by
  obtain ⟨h1, h2⟩ := h
  have hb := mayH_bd h1
  unfold putH at h2
  have hx : 0 < x ∧ x < 67108864 := by cases f <;> simp at h2 <;> omega
  unfold wk wc wl wf
  rw [Int.tmod_eq_emod_of_nonneg (by omega), Int.tmod_eq_emod_of_nonneg (by omega), Int.tdiv_eq_ediv_of_nonneg (by omega), Int.tmod_eq_emod_of_nonneg (by omega), Int.tdiv_eq_ediv_of_nonneg (by omega)]
  cases f <;> simp at h2
  · refine ⟨hx.1, hx.2, by omega, by omega, by omega, ?_⟩
    rw [decide_eq_false_iff_not]; omega
  · refine ⟨hx.1, hx.2, by omega, by omega, by omega, ?_⟩
    rw [decide_eq_true_iff]; omega
theorem word_of {x : Int} (h : mayH (wk x) (wc x) (wl x) (wf x) = true) : Word x (wk x) (wc x) (wl x) (wf x) := by
  refine ⟨h, ?_⟩
  have hb := mayH_bd h
  have h0 : 0 < x := by
    have := hb.1
    unfold wk at this
    rcases (show 0 < x ∨ x ≤ 0 by omega) with h | h
    · exact h
    · exfalso
      have : x.tmod 8 ≤ 0 := by
        have e : x = -(-x) := by omega
        rw [e, Int.neg_tmod]
        have := Int.tmod_nonneg 8 (show (0 : Int) ≤ -x by omega)
        omega
      omega
  clear h
  unfold putH wk wc wl wf at *
  rw [Int.tmod_eq_emod_of_nonneg (by omega), Int.tmod_eq_emod_of_nonneg (by omega), Int.tdiv_eq_ediv_of_nonneg (by omega), Int.tdiv_eq_ediv_of_nonneg (by omega), Int.tmod_eq_emod_of_nonneg (by omega)] at *
  by_cases h8 : 8 ≤ x % 16
  · simp [h8]; omega
  · simp [h8]; omega
theorem word_or (x : Int) : (∃ k c l f, Word x k c l f) ∨ (∀ k c l f, ¬ Word x k c l f) := by
  by_cases h : mayH (wk x) (wc x) (wl x) (wf x) = true
  · exact .inl ⟨_, _, _, _, word_of h⟩
  · refine .inr (fun k c l f hw => h ?_)
    obtain ⟨_, _, e1, e2, e3, e4⟩ := hw.parts
    rw [e1, e2, e3, e4]; exact hw.1

theorem tdiv16 (p : Int) (h : -65536 < p ∧ p < 65536) : -4096 < p.tdiv 16 ∧ p.tdiv 16 < 4096 := by
  rcases (show 0 ≤ p ∨ p ≤ 0 by omega) with h0 | h0
  · rw [Int.tdiv_eq_ediv_of_nonneg h0]; omega
  · have e : p = -(-p) := by omega
    rw [e, Int.neg_tdiv, Int.tdiv_eq_ediv_of_nonneg (by omega)]; omega
theorem tmod_bd (x : Int) : -65536 < x.tmod 65536 ∧ x.tmod 65536 < 65536 := by
  rcases (show 0 ≤ x ∨ x ≤ 0 by omega) with h0 | h0
  · rw [Int.tmod_eq_emod_of_nonneg h0]; omega
  · have e : x = -(-x) := by omega
    rw [e, Int.neg_tmod, Int.tmod_eq_emod_of_nonneg (by omega)]; omega
theorem tdiv_bd (x : Int) (h : -9223372036854775808 ≤ x ∧ x ≤ 9223372036854775807) : -140737488355329 < x.tdiv 65536 ∧ x.tdiv 65536 < 140737488355329 := by
  rcases (show 0 ≤ x ∨ x ≤ 0 by omega) with h0 | h0
  · rw [Int.tdiv_eq_ediv_of_nonneg h0]; omega
  · have e : x = -(-x) := by omega
    rw [e, Int.neg_tdiv, Int.tdiv_eq_ediv_of_nonneg (by omega)]; omega

/-- Four cells of a block. -/
theorem four_cells {w : World} {b : Nat} {t : TypeId} {a0 a1 a2 a3 : Value} (h : w.heap[b]? = some (.cells #[a0, a1, a2, a3] t (0, 0))) :
    w.cell? ⟨b, 0, none⟩ = some a0 ∧ w.cell? ⟨b, 1, none⟩ = some a1 ∧ w.cell? ⟨b, 2, none⟩ = some a2 ∧ w.cell? ⟨b, 3, none⟩ = some a3 := by
  refine ⟨?_, ?_, ?_, ?_⟩ <;> simp [World.cell?, h]
theorem four_free {w : World} {b : Nat} {t : TypeId} {a0 a1 a2 a3 : Value} (h : w.heap[b]? = some (.cells #[a0, a1, a2, a3] t (0, 0))) :
    w.frozen? ⟨b, 0, none⟩ = false ∧ w.frozen? ⟨b, 1, none⟩ = false ∧ w.frozen? ⟨b, 2, none⟩ = false ∧ w.frozen? ⟨b, 3, none⟩ = false := by
  refine ⟨?_, ?_, ?_, ?_⟩ <;> simp [World.frozen?, h]
theorem four_put {w : World} {b : Nat} {t : TypeId} {a0 a1 a2 a3 : Value} (h : w.heap[b]? = some (.cells #[a0, a1, a2, a3] t (0, 0))) (b0 b1 b2 b3 : Value) :
    ((((w.setCell ⟨b, 0, none⟩ b0).setCell ⟨b, 1, none⟩ b1).setCell ⟨b, 2, none⟩ b2).setCell ⟨b, 3, none⟩ b3).heap[b]? = some (.cells #[b0, b1, b2, b3] t (0, 0)) ∧
      Keep [b] w ((((w.setCell ⟨b, 0, none⟩ b0).setCell ⟨b, 1, none⟩ b1).setCell ⟨b, 2, none⟩ b2).setCell ⟨b, 3, none⟩ b3) := by
  have z1 := heap_setCell_same w b 0 _ _ b0 h
  have z2 := heap_setCell_same _ b 1 _ _ b1 z1
  have z3 := heap_setCell_same _ b 2 _ _ b2 z2
  have z4 := heap_setCell_same _ b 3 _ _ b3 z3
  exact ⟨by simpa using z4, (((Keep.setCell _ _ (by simp)).trans (Keep.setCell _ _ (by simp))).trans (Keep.setCell _ _ (by simp))).trans (Keep.setCell _ _ (by simp))⟩

set_option maxRecDepth 100000 in
set_option maxHeartbeats 800000 in
theorem hget_raw_no (x k c l : Int) (f : Bool) (w : World) (hx : -9223372036854775808 ≤ x ∧ x ≤ 9223372036854775807) (ek : wk x = k) (ec : wc x = c) (el : wl x = l) (ef : wf x = f) (hm : mayH k c l f = false) :
    Calls Try.prog 33 #[.int .i64 x] w fun e w' => e = .returned (.tuple #[.agg #[.int .i64 0, .int .i64 0, .int .i64 0, .bool false], .bool false]) ∧ Keep [] w w' := by
  unfold wk at ek
  unfold wc at ec
  unfold wl at el
  unfold wf at ef
  have HM := (show Hid (mayH k c l f = false) from hm)
  obtain ⟨p, hp⟩ : ∃ p, x.tmod 65536 = p := ⟨_, rfl⟩
  have hpb := tmod_bd x
  rw [hp] at ec hpb
  have hcb := tdiv16 p hpb
  rw [ec] at hcb
  have hcw : wrap64 c = c := IntWalk.wrap64_in _ (by omega)
  have hlb := tdiv_bd x hx
  rw [el] at hlb
  have hlw : wrap64 l = l := IntWalk.wrap64_in _ (by omega)
  have hK1 := (Keep.alloc [] w (.cells #[.int .i64 0, .int .i64 0, .int .i64 0, .bool false] 31)).trans (Keep.alloc [] (w.alloc (.cells #[.int .i64 0, .int .i64 0, .int .i64 0, .bool false] 31)) (.cells #[.int .i64 k, .int .i64 c, .int .i64 l, .bool f] 31))
  have hx1 := (Keep.alloc [] (w.alloc (.cells #[.int .i64 0, .int .i64 0, .int .i64 0, .bool false] 31)) (.cells #[.int .i64 k, .int .i64 c, .int .i64 l, .bool f] 31)).blk (heap_alloc_new w (.cells #[.int .i64 0, .int .i64 0, .int .i64 0, .bool false] 31)) (by simp)
  have hx2 := second_block w (.cells #[.int .i64 0, .int .i64 0, .int .i64 0, .bool false] 31) #[.int .i64 k, .int .i64 c, .int .i64 l, .bool f] 31
  clear hpb hm
  go_enter Try.func33, Try.ntmps33
  go_upto_region 2 with fail
  generalize (w.alloc (.cells #[.int .i64 0, .int .i64 0, .int .i64 0, .bool false] 31)).alloc (.cells #[.int .i64 k, .int .i64 c, .int .i64 l, .bool f] 31) = w2 at *
  clear ek ec el ef hp hcw hlw
  obtain ⟨bx, hbx⟩ : ∃ bx, w.heap.size = bx := ⟨_, rfl⟩
  rw [hbx] at hx1 hx2 ⊢
  obtain ⟨bz, hbz⟩ : ∃ b, bx + 1 = b := ⟨_, rfl⟩
  rw [hbz] at hx2 ⊢
  have HBX := (show Hid (w.heap.size = bx) from hbx)
  have hne : bx ≠ bz := by omega
  clear hbx hbz
  obtain ⟨c0, c1, c2, c3⟩ := four_cells hx2
  go_upto_region 3 with (first | (go_at_call 22; refine (hmay_any k c l f _).mono ?_; rw [HM.out]; rintro e w3 ⟨rfl, hK2⟩; have hx3 := hK2.blk hx1 (by simp); obtain ⟨d0, d1, d2, d3⟩ := four_cells hx3; obtain ⟨f0, f1, f2, f3⟩ := four_free hx3; have hx4 := hK2.blk hx2 (by simp); obtain ⟨g0, g1, g2, g3⟩ := four_cells hx4))
  go_wp2_with fail
  obtain ⟨z, hk4⟩ := four_put hx3 (.int .i64 0) (.int .i64 0) (.int .i64 0) (.bool false)
  refine bodyPost_ret (results_cell_tmp_row rfl _ _ bx 31 #[.int .i64 0, .int .i64 0, .int .i64 0, .bool false] (0, 0) _ rfl z Try.underlying31 rfl (by kernel_rfl)) rfl ?_
  refine ⟨rfl, (((hK1.trans hK2).mono (T := [bx]) (by simp)).trans hk4).drop ?_⟩
  have := HBX.out
  simp; omega

set_option maxRecDepth 100000 in
set_option maxHeartbeats 800000 in
theorem hget_raw_yes (x k c l : Int) (f : Bool) (w : World) (hx : -9223372036854775808 ≤ x ∧ x ≤ 9223372036854775807) (ek : wk x = k) (ec : wc x = c) (el : wl x = l) (ef : wf x = f) (hm : mayH k c l f = true) :
    Calls Try.prog 33 #[.int .i64 x] w fun e w' => e = .returned (.tuple #[.agg #[.int .i64 k, .int .i64 c, .int .i64 l, .bool f], .bool true]) ∧ Keep [] w w' := by
  unfold wk at ek
  unfold wc at ec
  unfold wl at el
  unfold wf at ef
  have HM := (show Hid (mayH k c l f = true) from hm)
  obtain ⟨p, hp⟩ : ∃ p, x.tmod 65536 = p := ⟨_, rfl⟩
  have hpb := tmod_bd x
  rw [hp] at ec hpb
  have hcb := tdiv16 p hpb
  rw [ec] at hcb
  have hcw : wrap64 c = c := IntWalk.wrap64_in _ (by omega)
  have hlb := tdiv_bd x hx
  rw [el] at hlb
  have hlw : wrap64 l = l := IntWalk.wrap64_in _ (by omega)
  have hK1 := (Keep.alloc [] w (.cells #[.int .i64 0, .int .i64 0, .int .i64 0, .bool false] 31)).trans (Keep.alloc [] (w.alloc (.cells #[.int .i64 0, .int .i64 0, .int .i64 0, .bool false] 31)) (.cells #[.int .i64 k, .int .i64 c, .int .i64 l, .bool f] 31))
  have hx1 := (Keep.alloc [] (w.alloc (.cells #[.int .i64 0, .int .i64 0, .int .i64 0, .bool false] 31)) (.cells #[.int .i64 k, .int .i64 c, .int .i64 l, .bool f] 31)).blk (heap_alloc_new w (.cells #[.int .i64 0, .int .i64 0, .int .i64 0, .bool false] 31)) (by simp)
  have hx2 := second_block w (.cells #[.int .i64 0, .int .i64 0, .int .i64 0, .bool false] 31) #[.int .i64 k, .int .i64 c, .int .i64 l, .bool f] 31
  clear hpb hm
  go_enter Try.func33, Try.ntmps33
  go_upto_region 2 with fail
  generalize (w.alloc (.cells #[.int .i64 0, .int .i64 0, .int .i64 0, .bool false] 31)).alloc (.cells #[.int .i64 k, .int .i64 c, .int .i64 l, .bool f] 31) = w2 at *
  clear ek ec el ef hp hcw hlw
  obtain ⟨bx, hbx⟩ : ∃ bx, w.heap.size = bx := ⟨_, rfl⟩
  rw [hbx] at hx1 hx2 ⊢
  obtain ⟨bz, hbz⟩ : ∃ b, bx + 1 = b := ⟨_, rfl⟩
  rw [hbz] at hx2 ⊢
  have HBX := (show Hid (w.heap.size = bx) from hbx)
  have hne : bx ≠ bz := by omega
  clear hbx hbz
  obtain ⟨c0, c1, c2, c3⟩ := four_cells hx2
  go_upto_region 4 with (first | (go_at_call 22; refine (hmay_any k c l f _).mono ?_; rw [HM.out]; rintro e w3 ⟨rfl, hK2⟩; have hx3 := hK2.blk hx1 (by simp); obtain ⟨d0, d1, d2, d3⟩ := four_cells hx3; obtain ⟨f0, f1, f2, f3⟩ := four_free hx3; have hx4 := hK2.blk hx2 (by simp); obtain ⟨g0, g1, g2, g3⟩ := four_cells hx4))
  go_wp2_with fail
  obtain ⟨z, hk4⟩ := four_put hx3 (.int .i64 k) (.int .i64 c) (.int .i64 l) (.bool f)
  refine bodyPost_ret (results_cell_tmp_row rfl _ _ bx 31 #[.int .i64 k, .int .i64 c, .int .i64 l, .bool f] (0, 0) _ rfl z Try.underlying31 rfl (by kernel_rfl)) rfl ?_
  refine ⟨rfl, (((hK1.trans hK2).mono (T := [bx]) (by simp)).trans hk4).drop ?_⟩
  have := HBX.out
  simp; omega


end Go.Proofs.Ytdpaffnpedcmpab
