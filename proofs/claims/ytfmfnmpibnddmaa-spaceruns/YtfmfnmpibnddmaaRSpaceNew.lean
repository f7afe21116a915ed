/-
  NewSpace of the document's own.
-/
import Derived.Test.YtfmfnmpibnddmaaRSpaceAt
import Derived.RegionTactic
import Derived.ChangeAlike
import Derived.Deep.CutRange
namespace Go.Proofs.Ytfmfnmpibnddmaa
open Go.RowKit

theorem Try.infoBits : (Try.prog.info? 71).map (fun i => (i.zero, i.size, i.bytes)) = some (some (.slice none 0 0), 1, 24) := by kernel_rfl

theorem five_new (w : World) (o1 o2 o3 o4 o5 : Obj) : (((((w.alloc o1).alloc o2).alloc o3).alloc o4).alloc o5).drew.heap[w.heap.size]? = some o1 ∧ (((((w.alloc o1).alloc o2).alloc o3).alloc o4).alloc o5).drew.heap[w.heap.size + 1]? = some o2 ∧
    (((((w.alloc o1).alloc o2).alloc o3).alloc o4).alloc o5).drew.heap[w.heap.size + 1 + 1]? = some o3 ∧ (((((w.alloc o1).alloc o2).alloc o3).alloc o4).alloc o5).drew.heap[w.heap.size + 1 + 1 + 1]? = some o4 ∧
    (((((w.alloc o1).alloc o2).alloc o3).alloc o4).alloc o5).drew.heap[w.heap.size + 1 + 1 + 1 + 1]? = some o5 ∧ Keep [] w (((((w.alloc o1).alloc o2).alloc o3).alloc o4).alloc o5).drew := by
  have k1 := Keep.alloc [] w o1
  have k2 := Keep.alloc [] (w.alloc o1) o2
  have k3 := Keep.alloc [] ((w.alloc o1).alloc o2) o3
  have k4 := Keep.alloc [] (((w.alloc o1).alloc o2).alloc o3) o4
  have k5 := Keep.alloc [] ((((w.alloc o1).alloc o2).alloc o3).alloc o4) o5
  have k6 := Keep.drew [] (((((w.alloc o1).alloc o2).alloc o3).alloc o4).alloc o5)
  have e1 := heap_alloc_new w o1
  have e2 := heap_alloc_new (w.alloc o1) o2
  have e3 := heap_alloc_new ((w.alloc o1).alloc o2) o3
  have e4 := heap_alloc_new (((w.alloc o1).alloc o2).alloc o3) o4
  have e5 := heap_alloc_new ((((w.alloc o1).alloc o2).alloc o3).alloc o4) o5
  rw [show (w.alloc o1).heap.size = w.heap.size + 1 by simp] at e2
  rw [show ((w.alloc o1).alloc o2).heap.size = w.heap.size + 1 + 1 by simp] at e3
  rw [show (((w.alloc o1).alloc o2).alloc o3).heap.size = w.heap.size + 1 + 1 + 1 by simp] at e4
  rw [show ((((w.alloc o1).alloc o2).alloc o3).alloc o4).heap.size = w.heap.size + 1 + 1 + 1 + 1 by simp] at e5
  have t3 := (k4.trans k5).trans k6
  have t2 := k3.trans t3
  have t1 := k2.trans t2
  exact ⟨t1.blk e1 (by simp), t2.blk e2 (by simp), t3.blk e3 (by simp), (k5.trans k6).blk e4 (by simp), k6.blk e5 (by simp), k1.trans t1⟩
/-- What the document's New lays out, whichever of its rows is made first. -/
def Laid (n : Nat) (w wz : World) (mb gw gk gm gt : Nat) : Prop :=
  wz.heap[mb]? = some (.cells #[.slice (some ⟨gw, 0, none⟩) (n * 64) (n * 64), .slice (some ⟨gk, 0, none⟩) n n, .slice (some ⟨gm, 0, none⟩) n n, .slice (some ⟨gt, 0, none⟩) n n] 51 (0, 0)) ∧
  wz.heap[gw]? = some (.cells (madeCells #[.int .i64 0] (n * 64)) 3 (0, 0)) ∧ wz.heap[gk]? = some (.cells (madeCells #[.int .i64 0] n) 3 (0, 0)) ∧ wz.heap[gm]? = some (.cells (madeCells #[.int .i64 0] n) 3 (0, 0)) ∧
  wz.heap[gt]? = some (.cells (madeCells #[.slice none 0 0] n) 71 (0, 0)) ∧ Keep [] w wz ∧ (w.heap.size ≤ mb ∧ w.heap.size ≤ gw ∧ w.heap.size ≤ gk ∧ w.heap.size ≤ gm ∧ w.heap.size ≤ gt) ∧
  (gw < mb ∧ gk < mb ∧ gm < mb ∧ gt < mb) ∧ (gw ≠ gk ∧ gw ≠ gm ∧ gw ≠ gt) ∧ gk ≠ gm ∧ gk ≠ gt ∧ gm ≠ gt
theorem rows_none (n : Nat) (L : RLay) : List.replicate n (Value.slice none 0 0) = slots L (freshK n) := by
  apply List.ext_getElem?
  intro q
  rcases Nat.lt_or_ge q n with hq | hq
  · rw [slots_get L (freshK n) q (by rw [freshK_length]; exact hq), freshK_at n q (by omega), List.getElem?_replicate, if_pos hq]
    split <;> rfl
  · rw [List.getElem?_eq_none (by simpa using hq), List.getElem?_eq_none (by rw [slots_length, freshK_length]; exact hq)]
theorem kind_fresh (n : Nat) (h : 1 ≤ n) : kindL (freshK n) = (zeros n).set 0 (-1) := by
  refine eq_of_getD (by rw [kindL_length, freshK_length, List.length_set, zeros_length]) (fun t => ?_)
  rw [kindL_get, freshK_at n t h]
  by_cases e : t = 0
  · subst e; rw [if_pos rfl, set_get_same _ _ _ (by rw [zeros_length]; omega)]; rfl
  · rw [if_neg e, set_get_other _ _ _ _ (fun e' => e e'.symm), zeros_get]; rfl
theorem Laid.ref {n : Nat} {w wz : World} {mb gw gk gm gt : Nat} (hn : 1 ≤ n) (h : Laid n w wz mb gw gk gm gt) : ∃ F, IsRef (wz.setCell ⟨gk, 0, none⟩ (.int .i64 (-1))) mb F (zeros (64 * n)) (freshK n) ∧ Keep [] w (wz.setCell ⟨gk, 0, none⟩ (.int .i64 (-1))) ∧ ∀ k, k ∈ F → w.heap.size ≤ k := by
  obtain ⟨h0, h1, h2, h3, h4, hK, ⟨a0, a1, a2, a3, a4⟩, ⟨b1, b2, b3, b4⟩, ⟨c1, c2, c3⟩, c4, c5, c6⟩ := h
  let r : Nat → Nat := fun k => if k = mb then 0 else if k = gw then 1 else if k = gk then 2 else if k = gm then 3 else 4
  have nosm : ∀ p c xs, kat (freshK n) p ≠ .small c xs := by
    intro p c xs e
    rw [freshK_at n p hn] at e
    split at e <;> cases e
  have base : RpAt wz mb ⟨gw, gk, gm, gt, fun _ => 0, r⟩ [mb, gw, gk, gm, gt] (zeros (64 * n)) (zeros n) (zeros n) (freshK n) := {
    head := by rw [freshK_length, Nat.mul_comm]; exact h0
    rowW := by unfold Row; rw [← ints_made, Nat.mul_comm]; exact h1
    rowK := by unfold Row; rw [← ints_made]; exact h2
    rowM := by unfold Row; rw [← ints_made]; exact h3
    rowT := by
      rw [← rows_none]
      have : madeCells #[Value.slice none 0 0] n = (List.replicate n (Value.slice none 0 0)).toArray := by
        apply Array.toList_inj.1
        rw [toList_madeCells_one]
      rw [← this]; exact h4
    page := fun p c xs e => absurd e (nosm p c xs)
    lw := by rw [zeros_length, freshK_length]
    lk := by rw [zeros_length, freshK_length]
    lm := by rw [zeros_length, freshK_length]
    r0 := if_pos rfl
    r1 := by show r gw = _; simp only [r]; rw [if_neg (by omega), if_pos trivial]
    r2 := by show r gk = _; simp only [r]; rw [if_neg (by omega), if_neg (by omega), if_pos trivial]
    r3 := by show r gm = _; simp only [r]; rw [if_neg (by omega), if_neg (by omega), if_neg (by omega), if_pos trivial]
    r4 := by show r gt = _; simp only [r]; rw [if_neg (by omega), if_neg (by omega), if_neg (by omega), if_neg (by omega)]
    rp := fun p c xs e => absurd e (nosm p c xs)
    f := by simp
    fp := fun p c xs e => absurd e (nosm p c xs)
    lt := by
      intro k hk
      have l0 := lt_of_block h0
      simp only [List.mem_cons, List.not_mem_nil, or_false] at hk
      omega }
  have := base.setK 0 (-1)
  rw [← kind_fresh n hn] at this
  refine ⟨[mb, gw, gk, gm, gt], ⟨⟨gw, gk, gm, gt, fun _ => 0, r⟩, by rw [freshK_big n hn]; exact this⟩, ?_, fun k hk => ?_⟩
  · exact ((hK.mono (T := [gk]) (by simp)).trans (Keep.setCell _ _ (by simp))).drop (fun k e hlt => by simp at e; omega)
  · simp only [List.mem_cons, List.not_mem_nil, or_false] at hk
    omega

set_option maxHeartbeats 8000000 in
theorem rnews_ok (n : Nat) (w : World) (h1 : 1 ≤ n) (h2 : n ≤ 256) :
    Calls Try.prog 14 #[.int .i64 n] w fun e w' => ∃ mb F, e = .returned (.pointer (some ⟨mb, 0, none⟩)) ∧ IsRef w' mb F (zeros (64 * n)) (freshK n) ∧ Keep [] w w' ∧ ∀ k, k ∈ F → w.heap.size ≤ k := by
  have hmk0 : ∀ w, (Instr.makeSlice 32 (.int .i64 ((n : Int) * 64)) (.int .i64 ((n : Int) * 64))).run Try.prog w = .ok (.slice (some ⟨w.heap.size, 0, none⟩) (n * 64) (n * 64)) (w.alloc (.cells (madeCells #[.int .i64 0] (n * 64)) 3)) := by
    intro w
    have := run_make_row' (P := Try.prog) 32 3 (.int .i64 0) 8 Try.underlying32 Try.infoInt rfl .i64 .i64 (n * 64) (by omega) (by omega) w
    rw [show ((n * 64 : Nat) : Int) = (n : Int) * 64 from by omega] at this
    exact this
  have hmk1 : ∀ w, (Instr.makeSlice 32 (.int .i64 (n : Int)) (.int .i64 (n : Int))).run Try.prog w = .ok (.slice (some ⟨w.heap.size, 0, none⟩) n n) (w.alloc (.cells (madeCells #[.int .i64 0] n) 3)) :=
    fun w => run_make_row' (P := Try.prog) 32 3 (.int .i64 0) 8 Try.underlying32 Try.infoInt rfl .i64 .i64 n (by omega) (by omega) w
  have hmk2 : ∀ w, (Instr.makeSlice 49 (.int .i64 (n : Int)) (.int .i64 (n : Int))).run Try.prog w = .ok (.slice (some ⟨w.heap.size, 0, none⟩) n n) (w.alloc (.cells (madeCells #[.slice none 0 0] n) 71)) :=
    fun w => run_make_row' (P := Try.prog) 49 71 (.slice none 0 0) 24 Try.underlying49 Try.infoBits rfl .i64 .i64 n (by omega) (by omega) w
  have hw64 : IntKind.i64.wrap ((n : Int) * 64) = (n : Int) * 64 := IntWalk.i64_in _ (by omega)
  go_enter Try.func14, Try.ntmps14
  go_wp2
  go_cut [3] from 4 to 14 (fun v wz => ∃ mb gw gk gm gt, v = .pointer (some ⟨mb, 0, none⟩) ∧ Hid (Laid n w wz mb gw gk gm gt))
  case first =>
    go_region
    all_goals
      go_wp2
      go_meet
      exact ⟨_, _, _, _, _, rfl, (five_new w _ _ _ _ _).2.2.2.2.1, by first | exact (five_new w _ _ _ _ _).1 | exact (five_new w _ _ _ _ _).2.1 | exact (five_new w _ _ _ _ _).2.2.1 | exact (five_new w _ _ _ _ _).2.2.2.1, by first | exact (five_new w _ _ _ _ _).1 | exact (five_new w _ _ _ _ _).2.1 | exact (five_new w _ _ _ _ _).2.2.1 | exact (five_new w _ _ _ _ _).2.2.2.1, by first | exact (five_new w _ _ _ _ _).1 | exact (five_new w _ _ _ _ _).2.1 | exact (five_new w _ _ _ _ _).2.2.1 | exact (five_new w _ _ _ _ _).2.2.2.1, by first | exact (five_new w _ _ _ _ _).1 | exact (five_new w _ _ _ _ _).2.1 | exact (five_new w _ _ _ _ _).2.2.1 | exact (five_new w _ _ _ _ _).2.2.2.1, (five_new w _ _ _ _ _).2.2.2.2.2, by omega, by omega, by omega, by omega, by omega, by omega⟩
  case rest =>
    obtain ⟨mb, gw, gk, gm, gt, rfl, HL⟩ := hcut
    have hh := HL.out.1
    have c1 : wc.cell? ⟨mb, 1, none⟩ = some (.slice (some ⟨gk, 0, none⟩) n n) := by simp [World.cell?, hh]
    have hk := HL.out.2.2.1
    rw [ints_made] at hk
    have hRk : Row wc 3 gk (zeros n) := hk
    have c2 := hRk.cell (i := 0) (by rw [zeros_length]; omega)
    have c3 := hRk.free 0
    have HF := (show Hid (∃ F, IsRef (wc.setCell ⟨gk, 0, none⟩ (.int .i64 (-1))) mb F (zeros (64 * n)) (freshK n) ∧ Keep [] w (wc.setCell ⟨gk, 0, none⟩ (.int .i64 (-1))) ∧ ∀ k, k ∈ F → w.heap.size ≤ k) from HL.out.ref h1)
    clear hh hk hRk
    go_wp2
    go_ret
    obtain ⟨F, hF⟩ := HF.out
    exact ⟨mb, F, rfl, hF⟩

end Go.Proofs.Ytfmfnmpibnddmaa
