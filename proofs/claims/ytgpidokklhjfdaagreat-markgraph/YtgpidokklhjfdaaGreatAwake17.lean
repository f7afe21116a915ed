/-
  Awake of gloaminglaw17.
-/
import Derived.Test.YtgpidokklhjfdaaGreatPart8
import Derived.Test.YtgpidokklhjfdaaGreatGraph17
import Derived.Test.YtgpidokklhjfdaaGreatPart6
namespace Go.Proofs.YtgpidokklhjfdaaGreat
open Go.RowKit

theorem oeach {w0 w : World} {F0 : List Nat} {hb sb : Nat} {ws : List Int} {kd : List PK} {ds : List (Int × List Int)} (h : Has w0 F0 (heapA hb ws kd ds) w) (ht : w.cell? ⟨hb, 0, none⟩ = some (.pointer (some ⟨sb, 0, none⟩))) :
    Calls Tryz.prog 45 #[.pointer (some ⟨sb, 0, none⟩)] w fun e w' => ∃ la lc, e = .returned (.slice la (eachK kd).length lc) ∧ IntsAt w' la (eachK kd) ∧ (∀ a, la = some a → w.heap.size ≤ a.block) ∧ Keep [] w w' := by
  obtain ⟨sb', tb, hr⟩ := h.raw
  have e := hr.cells.1
  rw [ht] at e
  obtain rfl := ptr_eq e
  exact xeach _ hr h.fine.wf
theorem OT.each {kd : List PK} {ws : List Int} {ds : List (Int × List Int)} {n : Nat} {A : Nat → Nat} {kk cc ll : Nat → Int} (h : OT kd ws ds n A kk cc ll) (hn : 0 < n) : 0 < (eachK kd).length ∧ isAt kd ((eachK kd)[0]?.getD 0) = true ∧ inI ((eachK kd)[0]?.getD 0) := by
  obtain ⟨m, hm⟩ := h.objs 0 hn
  have hin := h.fine.wf.each_of hm.2.1
  have h0 : 0 < (eachK kd).length := List.length_pos_of_mem hin
  have hm0 : (eachK kd)[0]?.getD 0 ∈ eachK kd := by rw [List.getElem?_eq_getElem h0]; exact List.getElem_mem h0
  obtain ⟨a, q, e, hf⟩ := (h.fine.wf.each_iff _).1 hm0
  refine ⟨h0, ?_, ?_⟩
  · rw [e]; unfold isAt; rw [find_nat, hf]; simp
  · have := h.fine.wf.found hf
    have := h.fine.wf.len2
    rw [e]; unfold inI; omega
theorem Has.four {w0 w : World} {F0 : List Nat} {A B C D : Asn} (h : Has w0 F0 ((((A.star B).star C).star D)) w) : Has w0 F0 A w := h.fst.fst.fst
def b123 : Nat → Nat := fun i => if i = 0 then 1 else if i = 1 then 2 else if i = 2 then 3 else 0
theorem u8_123 (w : World) : U8At (w.alloc (.cells #[.int .u8 1, .int .u8 2, .int .u8 3] 5)) (some ⟨w.heap.size, 0, none⟩) 3 b123 := by
  refine ⟨fun _ => ⟨w.heap.size, 0, rfl, by simp, fun i hi => ?_⟩, fun i => by unfold b123; repeat' split
                                                                               all_goals omega⟩
  have h := heap_alloc_new w (.cells #[.int .u8 1, .int .u8 2, .int .u8 3] 5)
  rw [Nat.zero_add, cell_of_row _ _ i _ _ _ h]
  rcases (show i = 0 ∨ i = 1 ∨ i = 2 by omega) with rfl | rfl | rfl <;> rfl

set_option maxRecDepth 100000 in
set_option maxHeartbeats 6400000 in
theorem awake17_any (w : World) :
    Calls Tryz.prog 20 #[] w fun e w' => e = .returned (.bool true) ∧ Keep [] w w' := by
  obtain ⟨W, K, A, hG⟩ := graph_ex b123 3 3 (u8_123 w).lt (by omega)
  have hO := hG.ot 3 (Nat.le_refl _)
  obtain ⟨he0, heat, hein⟩ := hO.each (by omega)
  have hGR := graph_any (some ⟨w.heap.size, 0, none⟩) 3 3 3 b123 W K A _ rfl hG (u8_123 w) (by omega)
  have HGR := hid hGR
  have hOk : MOk (K 3) (gW b123 3 3 W A 3) dsG (offs (gW b123 3 3 W A 3).length) := MOk.offs
  obtain ⟨ys, hT⟩ := markT_ex hO.fine (offs (gW b123 3 3 W A 3).length) (offs_length _) [(eachK (K 3))[0]?.getD 0]
  have hon : onM ys ((eachK (K 3))[0]?.getD 0) = true := (hT.iff _).2 (.inr (.root (by simp) heat))
  have HO := hid hOk
  have HT := hid hT
  have HON := hid hon
  have HEI := hid hein
  clear hG hO hGR hOk hT hon heat hein
  generalize gW b123 3 3 W A 3 = ws at *
  generalize K 3 = kd at *
  go_enter Tryz.func20, Tryz.ntmps20
  go_wp2_with fail
  refine HGR.out.mono ?_
  rintro e w1 ⟨hb, la, lc, rfl, hX⟩
  have HX := hid hX
  clear hX HGR
  go_wp2_with fail
  refine (has_left_ex HX.out (fun F hF => tnew_yes 1 _ hF (by omega) (by omega))).mono ?_
  rintro e w2 ⟨tb, rfl, hX2⟩
  have HX2 := hid hX2
  obtain ⟨bb, _, ct, _⟩ := hX2.fst.snd.trb
  clear hX2 HX
  go_wp2_with (first | (go_at_call 7; refine (err_any _ _).mono ?_; rintro e w' ⟨rfl, rfl⟩))
  refine (tmark none 0 0 [] _ HX2.out (fun _ _ _ => IntsAt.nil _ _) rfl (by omega) HO.out (MarkT.nil _)).mono ?_
  rintro e w3 ⟨rfl, hX3⟩
  have HX3 := hid hX3
  clear hX3 HX2 ct
  go_wp2_with fail
  refine (tall _ HX3.out.fst.snd).mono ?_
  rintro e w4 ⟨v4, m4, rfl, hown4, hK4⟩
  rw [marksL_offs] at hown4
  obtain rfl : m4 = 0 := by have := hown4.1; simpa [ints] using this.symm
  obtain ⟨va4, vc4, rfl⟩ := own_shape hown4
  have HX4 := hid (HX3.out.keep0 hK4)
  obtain ⟨sb, _, cs, _⟩ := HX4.out.fst.fst.ptrs
  clear hown4 hK4 HX3
  go_wp2_with fail
  refine (oeach HX4.out.fst.fst cs).mono ?_
  rintro e w5 ⟨ea, ec, rfl, hE, hfar, hK5⟩
  have HX5 := hid ((HX4.out.more hK5 (B := listA ea (eachK kd)) (G := ea.toList.map (·.block)) ⟨rfl, hE, fun a e => by
    obtain ⟨b, off, e2, hb, _⟩ := hE.cells he0
    rw [e] at e2
    injection e2 with e2
    rw [e2]; exact hb⟩ (fun k hk => by
    simp at hk
    obtain ⟨a, e, rfl⟩ := hk
    exact hfar a e)))
  have HE0 := hid he0
  obtain ⟨ln, hln⟩ : ∃ ln, (eachK kd).length = ln := ⟨_, rfl⟩
  rw [hln] at he0 ⊢
  obtain ⟨b, off, rfl, _, hcs⟩ := hE.cells (by omega)
  have hc0 := hcs 0 (by omega)
  rw [Nat.add_zero] at hc0
  obtain ⟨x, hx⟩ : ∃ x, (eachK kd)[0]?.getD 0 = x := ⟨_, rfl⟩
  rw [hx] at hc0 HT HON HEI
  have hd0 : ((ln : Int) == 0) = false := by rw [beq_eq_false_iff_ne]; omega
  have HX6 := hid (HX5.out.newB (.cells #[.int .i64 x] 3 (0, 0)))
  have HKK := (show Hid (∀ wz, Keep [] w5 wz → wz.cell? ⟨b, off, none⟩ = some (.int .i64 x)) from fun wz K => (K.cell (lt_of_cell2' hc0) (by simp) off).trans hc0)
  clear hcs hE hfar hK5 HX4 cs hln
  go_wp2_with fail
  refine (tmark (some ⟨w5.heap.size, 0, none⟩) 1 1 [x] _ HX6.out.assoc.assoc (fun zs w' h => h.snd.snd.snd.fact (fun _ h => ints_blkG h.2 (fun i => by rcases i with _ | i
                                                                                                                                                       · exact HEI.out
                                                                                                                                                       · simp))) rfl (by omega) HO.out HT.out).mono ?_
  rintro e w7 ⟨rfl, hX7⟩
  have HX7 := hid hX7
  have hc7 : w7.cell? ⟨b, off, none⟩ = some (.int .i64 x) := by
    obtain ⟨b', off', e, _, hcs⟩ := hX7.snd.snd.fst.list.cells HE0.out
    cases e
    have := hcs 0 HE0.out
    rwa [Nat.add_zero, hx] at this
  clear hX7 HX6 HKK hx hc0
  go_wp2_with (go_at_call 16; refine (tmarked x _ HX7.out.fst.snd).mono ?_; rw [HON.out]; rintro e w8 ⟨rfl, hK8⟩)
  go_ret
  exact ⟨rfl, ((Keep.alloc [] w _).trans HX7.out.K).trans hK8⟩

end Go.Proofs.YtgpidokklhjfdaaGreat
