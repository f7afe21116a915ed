/-
  Contracts of what the statement calls, one text behind the other (Clones, Queue, QueueOps, RefsAt, StepInts, RefsOps, FieldX, ObjList, ObjAll, ObjRoom).
-/
import Derived.Test.YtamcoejlghfleaaGreatRows
import Derived.Test.YtamcoejlghfleaaGreatPart2
import Derived.Shelf.Slices.Clone
import Derived.Test.YtamcoejlghfleaaGreatPart4
import Derived.Test.YtamcoejlghfleaaGreatPart6
import Derived.Deep.RegionLaw
import Derived.Deep.RegionHeld3
import Derived.Deep.AppendLies

/-
  The library's Clone of a list of integers: what the shelf's contract says, in this program's numbers.
-/
namespace Go.Proofs.YtamcoejlghfleaaGreat
open Go.RowKit

/-- The numbers of slices.Clone and of what it calls. -/
def cloneN : Go.Shelf.Ren := ⟨fun | 15 => 46 | n => n, fun | 22 => 23 | 3 => 3 | 4 => 4 | n => n, fun | n => n⟩
theorem cloneN_lays : Go.Proofs.Lays2.n15 Tryz.prog cloneN := {
  mixed := by kernel_rfl
  f15 := Tryz.func46.trans (congrArg some (by kernel_rfl))
  t3 := Tryz.underlying3
  a3 := Tryz.isAgg3
  z3 := Tryz.sizeOf3
  v3 := Tryz.zeroValue3
  t4 := Tryz.underlying4
  a4 := Tryz.isAgg4
  z4 := Tryz.sizeOf4
  v4 := Tryz.zeroValue4
  t22 := Tryz.underlying23
  a22 := Tryz.isAgg23
  z22 := Tryz.sizeOf23
  v22 := Tryz.zeroValue23
  i3 := by kernel_rfl }
/-- A copy of a list, in memory that is new. -/
theorem lclone {n : Nat} {L : List Int} (la : Option Addr) (c : Nat) (w : World) (hA : IntsAt w la L) (hl : L.length = n) (hn : n ≤ 1000000) (hz : la = none → c = 0) :
    Calls Tryz.prog 46 #[.slice la n c] w fun e w' => ∃ v', e = .returned v' ∧ w'.ownsRow w.heap.size 3 1 v' n (ints L) ∧ Keep [] w w' := by
  subst hl
  cases la with
  | none =>
    have h0 : L = [] := by
      rcases Nat.eq_zero_or_pos L.length with h0 | h0
      · exact List.length_eq_zero_iff.1 h0
      · obtain ⟨_, _, e, _⟩ := hA.cells h0; cases e
    subst h0
    obtain rfl := hz rfl
    refine (Any.slices_Clone_int_nil cloneN_lays 0 0 w).mono ?_
    rintro e w' ⟨rfl, rfl⟩
    exact ⟨_, rfl, World.ownsRow_nil _ _ _ _, Keep.refl _ _⟩
  | some a =>
    rcases Nat.eq_zero_or_pos L.length with h0 | h0
    · obtain rfl : L = [] := List.length_eq_zero_iff.1 h0
      refine (Any.slices_Clone_int_zero cloneN_lays a c w).mono ?_
      rintro e w' ⟨v', rfl, h1, _, h3⟩
      exact ⟨v', rfl, h1, Keep.ofBelow h3 (Nat.le_refl _)⟩
    · obtain ⟨b, off, e, hb, hc⟩ := hA.cells h0
      cases e
      refine (Any.slices_Clone_int cloneN_lays b off L.length c L w (Nat.le_refl _) (by omega) (fun j hj => by rw [hc j hj]; simp)).mono ?_
      rintro e w' ⟨v', rfl, h1, _, h3⟩
      rw [List.take_of_length_le (Nat.le_refl _)] at h1
      exact ⟨v', rfl, h1, Keep.ofBelow h3 (Nat.le_refl _)⟩

end Go.Proofs.YtamcoejlghfleaaGreat

/-
  Package queue: what has, isRef, link, New, Queues, List answer and leave.
-/
namespace Go.Proofs.YtamcoejlghfleaaGreat
open Go.RowKit

def qhasB (n : Nat) (i : Int) : Bool := decide (0 ≤ i ∧ i < (n : Int))
theorem qhasB_yes {n : Nat} {i : Int} (h : 0 ≤ i ∧ i < (n : Int)) : qhasB n i = true := decide_eq_true h
theorem qhasB_no {n : Nat} {i : Int} (h : ¬ (0 ≤ i ∧ i < (n : Int))) : qhasB n i = false := decide_eq_false h

section
variable {w0 : World} {F0 : List Nat} {qb hb : Nat} {va : Option Addr} {vc : Nat} {ws : List Int} {kd : List PK} {ds : List (Int × List Int)} {Ls : List (List Int)}

set_option maxHeartbeats 1600000 in
theorem qhas (n : Nat) (i : Int) (w : World) (hc : w.cell? ⟨qb, 1, none⟩ = some (.slice va n vc)) :
    Calls Tryz.prog 43 #[.pointer (some ⟨qb, 0, none⟩), .int .i64 i] w fun e w' => e = .returned (.bool (qhasB n i)) ∧ w = w' := by
  by_cases h0 : 0 ≤ i
  · have d0 : decide (0 ≤ i) = true := decide_eq_true h0
    by_cases h1 : i < (n : Int)
    · have d1 : decide (i < (n : Int)) = true := decide_eq_true h1
      have HB := (show Hid (qhasB n i = true) from qhasB_yes ⟨h0, h1⟩)
      go_enter Tryz.func43, Tryz.ntmps43
      go_wp2_with fail
      go_ret
      rw [HB.out]; exact ⟨by simp, rfl⟩
    · have d1 : decide (i < (n : Int)) = false := decide_eq_false h1
      have HB := (show Hid (qhasB n i = false) from qhasB_no (by omega))
      go_enter Tryz.func43, Tryz.ntmps43
      go_wp2_with fail
      go_ret
      rw [HB.out]; exact ⟨by simp, rfl⟩
  · have d0 : decide (0 ≤ i) = false := decide_eq_false h0
    have HB := (show Hid (qhasB n i = false) from qhasB_no (by omega))
    go_enter Tryz.func43, Tryz.ntmps43
    go_wp2_with fail
    go_ret
    rw [HB.out]; exact ⟨by simp, rfl⟩
set_option maxHeartbeats 800000 in
theorem qhas_nil (i : Int) (w : World) :
    Calls Tryz.prog 43 #[.pointer none, .int .i64 i] w fun e w' => e = .returned (.bool false) ∧ w = w' := by
  go_enter Tryz.func43, Tryz.ntmps43
  go_wp2_with fail
  go_ret
  exact ⟨rfl, rfl⟩

set_option maxHeartbeats 1600000 in
theorem qisref (a k c l E : Int) (f : Bool) (w : World) (h : Has w0 F0 (heapA hb ws kd ds) w) (c0 : w.cell? ⟨qb, 0, none⟩ = some (.pointer (some ⟨hb, 0, none⟩))) (hT : HeadT kd ws a k c l f E) :
    Calls Tryz.prog 69 #[.pointer (some ⟨qb, 0, none⟩), .int .i64 a] w fun e w' => e = .returned (.bool (k == 4)) ∧ Keep [] w w' := by
  have HH := (show Hid (Has w0 F0 (heapA hb ws kd ds) w) from h)
  have HT := (show Hid (HeadT kd ws a k c l f E) from hT)
  clear h hT
  by_cases hk : k = 4
  · subst hk
    go_enter Tryz.func69, Tryz.ntmps69
    go_wp2_with (first | (go_at_call 48; refine (ohead a 4 c l E f _ HH.out HT.out).mono ?_; rintro e w1 ⟨rfl, hK1⟩; have hy := heap_alloc_new w1 (.cells #[.int .i64 4, .int .i64 c, .int .i64 l, .bool f] 67); obtain ⟨g0, g1, g2, g3⟩ := four_cells hy))
    go_ret
    exact ⟨by simp, hK1.trans (Keep.alloc [] _ _)⟩
  · have hd : (k == 4) = false := by simpa using hk
    go_enter Tryz.func69, Tryz.ntmps69
    go_wp2_with (first | (go_at_call 48; refine (ohead a k c l E f _ HH.out HT.out).mono ?_; rintro e w1 ⟨rfl, hK1⟩; have hy := heap_alloc_new w1 (.cells #[.int .i64 k, .int .i64 c, .int .i64 l, .bool f] 67); obtain ⟨g0, g1, g2, g3⟩ := four_cells hy))
    go_ret
    exact ⟨by simp [hd], hK1.trans (Keep.alloc [] _ _)⟩

set_option maxHeartbeats 1600000 in
theorem qlink {A : Asn} (a x : Int) (ws' : List Int) (w : World) (h : Has w0 F0 (A.star (heapA hb ws kd ds)) w) (c0 : w.cell? ⟨qb, 0, none⟩ = some (.pointer (some ⟨hb, 0, none⟩))) (hT : LinkT kd ws a x ws') (hx : inI x) :
    Calls Tryz.prog 44 #[.pointer (some ⟨qb, 0, none⟩), .int .i64 a, .int .i64 x] w fun e w' => e = .returned (.tuple #[]) ∧ Has w0 F0 (A.star (heapA hb ws' kd ds)) w' := by
  have HQ := (show Hid (Has w0 F0 (A.star (heapA hb ws kd ds)) w) from h)
  have HC := hid c0
  cases hT with
  | no k c l E f hH hk =>
    have HH := (show Hid (HeadT kd ws a k c l f E) from hH)
    have HD := (show Hid ((k == 4) = false) from by show _ = _; simpa using hk)
    clear h hH hk
    go_enter Tryz.func44, Tryz.ntmps44
    go_wp2_with (first | (go_at_call 69; refine (qisref a k c l E f _ HQ.out.snd HC.out HH.out).mono ?_; rw [HD.out]; rintro e w1 ⟨rfl, hK1⟩))
    go_end0
    exact ⟨rfl, HQ.out.keep0 hK1⟩
  | yes b m c l E f ws' hA hP =>
    have HH := (show Hid (HeadT kd ws a 4 c l f 0) from .yes b m 4 c l f hA)
    have HP := (show Hid (PutT kd ws a 2 x E ws') from hP)
    clear h hA hP
    go_enter Tryz.func44, Tryz.ntmps44
    go_wp2_with (first | (go_at_call 69; refine (qisref a 4 c l 0 f _ HQ.out.snd HC.out HH.out).mono ?_; rintro e w1 ⟨rfl, hK1⟩; have c1 := (hK1.cell (lt_of_cell2' c0) (by simp) 0).trans c0) | (go_at_call 33; go_loud (refine (has_right (HQ.out.keep0 hK1) (fun F hF => oput a 2 x E ws' _ hF HP.out hx)).mono ?_; rintro e w2 ⟨rfl, hQ2⟩)))
    go_end0
    exact ⟨rfl, hQ2⟩

set_option maxHeartbeats 1600000 in
theorem qnew (w : World) (h : Has w0 F0 (heapA hb ws kd ds) w) :
    Calls Tryz.prog 53 #[.pointer (some ⟨hb, 0, none⟩)] w fun e w' => ∃ qb, e = .returned (.pointer (some ⟨qb, 0, none⟩)) ∧ Has w0 F0 (queueA qb hb ws kd ds []) w' := by
  have HH := (show Hid (Has w0 F0 (heapA hb ws kd ds) w) from h)
  clear h
  go_enter Tryz.func53, Tryz.ntmps53
  go_wp2_with fail
  go_ret
  have h1 := (HH.out.newB (qObj hb none 0 0)).llNew
  exact ⟨_, rfl, (h1.assoc.comm).queue ⟨by simp, by simp⟩⟩
set_option maxHeartbeats 800000 in
theorem qnew_nil (w : World) :
    Calls Tryz.prog 53 #[.pointer none] w fun e w' => e = .returned (.pointer none) ∧ w = w' := by
  go_enter Tryz.func53, Tryz.ntmps53
  go_wp2_with fail
  go_ret
  exact ⟨rfl, rfl⟩
set_option maxHeartbeats 800000 in
theorem qqueues (w : World) (h : Has w0 F0 (queueA qb hb ws kd ds Ls) w) :
    Calls Tryz.prog 62 #[.pointer (some ⟨qb, 0, none⟩)] w fun e w' => e = .returned (.int .i64 (Ls.length : Int)) ∧ w = w' := by
  obtain ⟨va, vc, hr⟩ := h.qraw
  obtain ⟨_, c1, _⟩ := hr.qcells
  obtain ⟨n, hn⟩ : ∃ n, Ls.length = n := ⟨_, rfl⟩
  rw [hn] at c1 ⊢
  clear h hr hn
  go_enter Tryz.func62, Tryz.ntmps62
  go_wp2_with fail
  go_ret
  exact ⟨rfl, rfl⟩
set_option maxHeartbeats 800000 in
theorem qqueues_nil (w : World) :
    Calls Tryz.prog 62 #[.pointer none] w fun e w' => e = .returned (.int .i64 0) ∧ w = w' := by
  go_enter Tryz.func62, Tryz.ntmps62
  go_wp2_with fail
  go_ret
  exact ⟨rfl, rfl⟩

set_option maxHeartbeats 1600000 in
theorem qlist_no (i : Int) (w : World) (h : Has w0 F0 (queueA qb hb ws kd ds Ls) w) (hi : ¬ IsQ Ls i) :
    Calls Tryz.prog 18 #[.pointer (some ⟨qb, 0, none⟩), .int .i64 i] w fun e w' => e = .returned (.tuple #[.slice none 0 0, .int .i64 2]) ∧ w = w' := by
  obtain ⟨va, vc, hr⟩ := h.qraw
  obtain ⟨_, c1, _⟩ := hr.qcells
  have HB := (show Hid (qhasB Ls.length i = false) from qhasB_no hi)
  have HC := (show Hid (w.cell? ⟨qb, 1, none⟩ = some (.slice va Ls.length vc)) from c1)
  clear h hr hi c1
  go_enter Tryz.func18, Tryz.ntmps18
  go_wp2_with (first | (go_at_call 43; refine (qhas _ i _ HC.out).mono ?_; rw [HB.out]; rintro e w1 ⟨rfl, rfl⟩))
  go_ret2
  exact ⟨rfl, rfl⟩
set_option maxHeartbeats 1600000 in
theorem qlist_yes (j : Nat) (L : List Int) (w : World) (h : Has w0 F0 (queueA qb hb ws kd ds Ls) w) (hL : Ls[j]? = some L) :
    Calls Tryz.prog 18 #[.pointer (some ⟨qb, 0, none⟩), .int .i64 j] w fun e w' => ∃ la lc, e = .returned (.tuple #[.slice la L.length lc, .int .i64 0]) ∧ w'.ownsRow w.heap.size 3 1 (.slice la L.length lc) L.length (ints L) ∧ Keep [] w w' := by
  obtain ⟨va, vc, hr⟩ := h.qraw
  obtain ⟨_, c1, _⟩ := hr.qcells
  have hj : j < Ls.length := by
    rcases Nat.lt_or_ge j Ls.length with e | e
    · exact e
    · rw [List.getElem?_eq_none e] at hL; cases hL
  have hq := h.qok
  have HB := (show Hid (qhasB Ls.length j = true) from qhasB_yes (by omega))
  obtain ⟨b, v, rfl, c2, _, hm, _⟩ := hr.fst.snd.llCell hL
  obtain ⟨la, c, rfl⟩ := hm.form
  obtain ⟨hLb, hLr⟩ := hq.2 L (List.mem_of_getElem? hL)
  obtain ⟨hI, _, hz, _⟩ := hm.ints hLr
  have HI := (show Hid (IntsAt w la L) from hI)
  have HZ := (show Hid (la = none → c = 0) from hz)
  obtain ⟨n, hn⟩ : ∃ n, Ls.length = n := ⟨_, rfl⟩
  rw [hn] at c1 hj HB
  obtain ⟨q, hq'⟩ : ∃ q, L.length = q := ⟨_, rfl⟩
  have HN := (show Hid (L.length = q) from hq')
  rw [hq'] at c2 hLb ⊢
  have HC := (show Hid (w.cell? ⟨qb, 1, none⟩ = some (.slice (some ⟨b, 0, none⟩) n vc)) from c1)
  clear h hr hL hm hI hLr hz hq hn hq'
  go_enter Tryz.func18, Tryz.ntmps18
  go_wp2_with (first | (go_at_call 43; refine (qhas _ j _ HC.out).mono ?_; rw [HB.out]; rintro e w1 ⟨rfl, rfl⟩) | (go_at_call 46; refine (lclone la c _ HI.out HN.out hLb HZ.out).mono ?_; rintro e w2 ⟨v', rfl, hown, hK⟩))
  go_ret2
  have hf : ∃ la' lc', v' = .slice la' q lc' := by
    rcases hown.2 with ⟨e, e0⟩ | ⟨g, cap, cur, e, _⟩
    · subst e0; exact ⟨_, _, e⟩
    · exact ⟨_, _, e⟩
  obtain ⟨la', lc', rfl⟩ := hf
  exact ⟨la', lc', rfl, hown, hK⟩
set_option maxHeartbeats 800000 in
theorem qlist_nil (i : Int) (w : World) :
    Calls Tryz.prog 18 #[.pointer none, .int .i64 i] w fun e w' => e = .returned (.tuple #[.slice none 0 0, .int .i64 2]) ∧ w = w' := by
  go_enter Tryz.func18, Tryz.ntmps18
  go_wp2_with (first | (go_at_call 43; refine (qhas_nil i _).mono ?_; rintro e w1 ⟨rfl, rfl⟩))
  go_ret2
  exact ⟨rfl, rfl⟩
end

end Go.Proofs.YtamcoejlghfleaaGreat

/-
  Package queue: what Open, Push and Poll answer and leave.
-/
namespace Go.Proofs.YtamcoejlghfleaaGreat
open Go.RowKit

theorem Tryz.infoIntQ : (Tryz.prog.info? 3).map (fun i => (i.zero, i.size, i.bytes)) = some (some (.int .i64 0), 1, 8) := by kernel_rfl
theorem Tryz.infoRowQ : (Tryz.prog.info? 23).map (fun i => (i.zero, i.size, i.bytes)) = some (some (.slice none 0 0), 1, 24) := by kernel_rfl

section
variable {w0 : World} {F0 : List Nat} {qb hb : Nat} {va : Option Addr} {vc : Nat} {ws : List Int} {kd : List PK} {ds : List (Int × List Int)} {Ls : List (List Int)}

set_option maxHeartbeats 1600000 in
theorem qopen_full (w : World) (h : Has w0 F0 (queueA qb hb ws kd ds Ls) w) (hf : 8 ≤ Ls.length) :
    Calls Tryz.prog 28 #[.pointer (some ⟨qb, 0, none⟩)] w fun e w' => e = .returned (.tuple #[.int .i64 0, .int .i64 3]) ∧ w = w' := by
  obtain ⟨va, vc, hr⟩ := h.qraw
  obtain ⟨_, c1, _⟩ := hr.qcells
  obtain ⟨n, hn⟩ : ∃ n, Ls.length = n := ⟨_, rfl⟩
  rw [hn] at c1 hf
  have hd : decide ((8 : Int) ≤ (n : Int)) = true := decide_eq_true (by omega)
  clear h hr hn
  go_enter Tryz.func28, Tryz.ntmps28
  go_wp2_with fail
  go_ret2
  exact ⟨rfl, rfl⟩
set_option maxHeartbeats 800000 in
theorem qopen_nil (w : World) :
    Calls Tryz.prog 28 #[.pointer none] w fun e w' => e = .returned (.tuple #[.int .i64 0, .int .i64 2]) ∧ w = w' := by
  go_enter Tryz.func28, Tryz.ntmps28
  go_wp2_with fail
  go_ret2
  exact ⟨rfl, rfl⟩
theorem QOK.more (h : QOK Ls) (hf : Ls.length < 8) : QOK (Ls ++ [[]]) := by
  refine ⟨by simp; omega, fun L hL => ?_⟩
  rcases List.mem_append.1 hL with e | e
  · exact h.2 L e
  · simp at e
    subst e
    exact ⟨by simp, fun i => by simp⟩
set_option maxHeartbeats 1600000 in
theorem qopen_yes (w : World) (h : Has w0 F0 (queueA qb hb ws kd ds Ls) w) (hf : Ls.length < 8) :
    Calls Tryz.prog 28 #[.pointer (some ⟨qb, 0, none⟩)] w fun e w' => e = .returned (.tuple #[.int .i64 (Ls.length : Int), .int .i64 0]) ∧ Has w0 F0 (queueA qb hb ws kd ds (Ls ++ [[]])) w' := by
  obtain ⟨i0, hi, hz0, hz1, hz2⟩ := info_parts Tryz.infoRowQ
  have hI : Hid (Tryz.prog.info? 23 = some i0 ∧ i0.zero = some (.slice none 0 0) ∧ i0.size = 1 ∧ i0.bytes = 24) := ⟨hi, hz0, hz1, hz2⟩
  clear hi hz0 hz1 hz2
  have HQ := (show Hid (QOK (Ls ++ [[]])) from h.qok.more hf)
  obtain ⟨va, vc, hr⟩ := h.qraw
  obtain ⟨_, c1, f1⟩ := hr.qcells
  have hx := hr.swap
  obtain ⟨vs, hv1, hv2, hv3, hv4⟩ := hx.llOwn
  have HX := (show Hid (Has w0 F0 (((blockA qb (qObj hb va Ls.length vc)).star (heapA hb ws kd ds)).star (llA va vc Ls)) w) from hx)
  have HV2 := (show Hid (∀ o, (w.alloc o).ownsRow 0 23 1 (.slice va Ls.length vc) Ls.length vs) from fun o => hv2.alloc o)
  obtain ⟨n, hn⟩ : ∃ n, Ls.length = n := ⟨_, rfl⟩
  have HN := (show Hid (Ls.length = n) from hn)
  rw [hn] at c1 hf hv4 HV2 ⊢
  have HV4 := hid hv4
  have hne : ∀ a, va = some a → a.block ≠ qb := hx.llNe
  have hd : decide ((8 : Int) ≤ (n : Int)) = false := decide_eq_false (by omega)
  clear h hx hr hv1 hv2 hv3 hv4 hn
  go_enter Tryz.func28, Tryz.ntmps28
  go_wp2_with (first | (at_builtin; refine wpList_append_lies _ rfl (.tmp 18) (.tmp 19) 50 rfl 0 23 i0 (.slice none 0 0) 1 24 Tryz.underlying50 hI.out.1 hI.out.2.1 hI.out.2.2.1 hI.out.2.2.2 rfl (by decide) (.slice va n vc) n vs rfl (HV2.out _) ⟨w.heap.size, 0, none⟩ 1 1 [.slice none 0 0] rfl rfl (World.news_of_block (heap_alloc_new w _)) (by intro u hu; simp at hu; subst hu; rfl) (by omega) (by unfold maxLen; omega) (by omega) (by omega) (w.heap.size + 1) (by simp) ?_; intro g cap w4 hown hgrow hat hlt; have hK4 : Keep (va.toList.map (·.block)) w w4 := (((Keep.alloc [] w _).mono (by simp)).trans (grown_keep hgrow)); have HX4 := hid (HV4.out w4 g cap (w.heap.size + 1) hown hK4 hat (by omega) hlt); obtain ⟨hc4, hf4⟩ := blk_far HX4.out.fst.fst))
  go_ret2
  have h4 := HX4.out.assoc
  have hb4 : w4.heap[qb]? = some (qObj hb va n vc) := h4.fst.fact (fun _ h => h.2)
  have hb5 := heap_setCell_same w4 qb 1 _ _ (.slice (some ⟨g, 0, none⟩) (n + 1) cap) hb4
  have h5 := (h4.setB (o' := qObj hb (some ⟨g, 0, none⟩) (n + 1) cap) (Keep.setCell (S := [qb]) w4 (a := ⟨qb, 1, none⟩) (.slice (some ⟨g, 0, none⟩) (n + 1) cap) (by simp)) (by simpa [qObj] using hb5)).assoc'.swap
  refine ⟨rfl, Has.queue (va := some ⟨g, 0, none⟩) (vc := cap) ?_ HQ.out⟩
  unfold queueR
  rw [List.length_append, HN.out]
  exact h5

theorem isQ_j {j : Nat} {L : List Int} (h : Ls[j]? = some L) : j < Ls.length := by
  rcases Nat.lt_or_ge j Ls.length with e | e
  · exact e
  · rw [List.getElem?_eq_none e] at h; cases h
set_option maxHeartbeats 1600000 in
theorem qpush_none (i a : Int) (w : World) (h : Has w0 F0 (queueA qb hb ws kd ds Ls) w) (hi : ¬ IsQ Ls i) :
    Calls Tryz.prog 41 #[.pointer (some ⟨qb, 0, none⟩), .int .i64 i, .int .i64 a] w fun e w' => e = .returned (.int .i64 2) ∧ w = w' := by
  obtain ⟨va, vc, hr⟩ := h.qraw
  obtain ⟨_, c1, _⟩ := hr.qcells
  have HB := (show Hid (qhasB Ls.length i = false) from qhasB_no hi)
  have HC := (show Hid (w.cell? ⟨qb, 1, none⟩ = some (.slice va Ls.length vc)) from c1)
  clear h hr hi c1
  go_enter Tryz.func41, Tryz.ntmps41
  go_wp2_with (first | (go_at_call 43; refine (qhas _ i _ HC.out).mono ?_; rw [HB.out]; rintro e w1 ⟨rfl, rfl⟩))
  go_ret
  exact ⟨rfl, rfl⟩
set_option maxHeartbeats 800000 in
theorem qpush_nil (i a : Int) (w : World) :
    Calls Tryz.prog 41 #[.pointer none, .int .i64 i, .int .i64 a] w fun e w' => e = .returned (.int .i64 2) ∧ w = w' := by
  go_enter Tryz.func41, Tryz.ntmps41
  go_wp2_with (first | (go_at_call 43; refine (qhas_nil i _).mono ?_; rintro e w1 ⟨rfl, rfl⟩))
  go_ret
  exact ⟨rfl, rfl⟩
set_option maxHeartbeats 1600000 in
theorem qpush_kind (i a k c l E : Int) (f : Bool) (w : World) (h : Has w0 F0 (queueA qb hb ws kd ds Ls) w) (hi : IsQ Ls i) (hT : HeadT kd ws a k c l f E) (hk : k ≠ 4) :
    Calls Tryz.prog 41 #[.pointer (some ⟨qb, 0, none⟩), .int .i64 i, .int .i64 a] w fun e w' => e = .returned (.int .i64 5) ∧ Keep [] w w' := by
  obtain ⟨va, vc, hr⟩ := h.qraw
  obtain ⟨c0, c1, _⟩ := hr.qcells
  have HB := (show Hid (qhasB Ls.length i = true) from qhasB_yes hi)
  have HC := (show Hid (w.cell? ⟨qb, 1, none⟩ = some (.slice va Ls.length vc)) from c1)
  have HT := hid hT
  have HK := (show Hid ((k == 4) = false) from by show _ = _; simpa using hk)
  have HH := hid h.qheap
  have HC0 := hid c0
  clear h hr hi c1 c0 hT hk
  go_enter Tryz.func41, Tryz.ntmps41
  go_wp2_with (first | (go_at_call 43; refine (qhas _ i _ HC.out).mono ?_; rw [HB.out]; rintro e w1 ⟨rfl, rfl⟩) | (go_at_call 69; refine (qisref a k c l E f _ HH.out HC0.out HT.out).mono ?_; rw [HK.out]; rintro e w1 ⟨rfl, hK1⟩))
  go_ret
  exact ⟨rfl, hK1⟩

set_option maxRecDepth 100000 in
set_option maxHeartbeats 3200000 in
theorem qpush_first (j b m : Nat) (a c l : Int) (f : Bool) (ws' : List Int) (w : World) (h : Has w0 F0 (queueA qb hb ws kd ds Ls) w) (hL : Ls[j]? = some []) (hA : At kd ws a b m 4 c l f) (hT : LinkT kd ws a 0 ws') (hx : inI a) :
    Calls Tryz.prog 41 #[.pointer (some ⟨qb, 0, none⟩), .int .i64 j, .int .i64 a] w fun e w' => e = .returned (.int .i64 0) ∧ Has w0 F0 (queueA qb hb ws' kd ds (Ls.set j [a])) w' := by
  obtain ⟨i0, hi, hz0, hz1, hz2⟩ := info_parts Tryz.infoIntQ
  have hI : Hid (Tryz.prog.info? 3 = some i0 ∧ i0.zero = some (.int .i64 0) ∧ i0.size = 1 ∧ i0.bytes = 8) := ⟨hi, hz0, hz1, hz2⟩
  clear hi hz0 hz1 hz2
  have hj := isQ_j hL
  have HQ := (show Hid (QOK (Ls.set j [a])) from h.qok.set j (by simp) (fun i => by rcases i with _ | i <;> simp; exact hx))
  obtain ⟨va, vc, hr⟩ := h.qraw
  obtain ⟨c0, c1, _⟩ := hr.qcells
  have HB := (show Hid (qhasB Ls.length j = true) from qhasB_yes (by omega))
  have HL := hid hL
  have HJ := hid hj
  obtain ⟨bb, v, rfl, c2, _, hm, n1, n2, n3, hp⟩ := hr.qrow hL
  obtain ⟨la, cc, rfl⟩ := hm.form
  have HP := hid hp
  have HH := hid h.qheap
  have HT := hid hT
  have HT0 := (show Hid (HeadT kd ws a 4 c l f 0) from .yes b m 4 c l f hA)
  obtain ⟨n, hn⟩ : ∃ n, Ls.length = n := ⟨_, rfl⟩
  rw [hn] at c1 hj HB
  rw [List.length_nil] at c2
  have HC := hid c1
  have HC0 := hid c0
  have HN := hid hn
  clear h hr hL hm hp hT hA hn
  go_enter Tryz.func41, Tryz.ntmps41
  go_upto_region 10 with (first | (go_at_call 43; refine (qhas _ j _ HC.out).mono ?_; rw [HB.out]; rintro e w1 ⟨rfl, rfl⟩) | (go_at_call 69; refine (qisref a 4 c l 0 f _ HH.out HC0.out HT0.out).mono ?_; rintro e w1 ⟨rfl, hK1⟩; have c1a := (hK1.cell (lt_of_cell2' c1) (by simp) 1).trans c1; have c2a := (hK1.cell (lt_of_cell2' c2) (by simp) j).trans c2; have c0a := (hK1.cell (lt_of_cell2' c0) (by simp) 0).trans c0) | (go_at_call 44; refine (qlink a 0 ws' _ (HP.out.keep0 hK1) c0a HT.out inI_0).mono ?_; rintro e w3 ⟨rfl, hP3⟩))
  obtain ⟨hr3, c23⟩ := hP3.unpin
  have HR3 := (show Hid (Has w0 F0 (queueR qb hb (some ⟨bb, 0, none⟩) vc ws' kd ds Ls) w3) from hr3)
  obtain ⟨_, c13, _⟩ := HR3.out.qcells
  obtain ⟨f3, hm3, m1, m2, _⟩ := HR3.out.qrowAt HL.out c23
  have HM := (show Hid (∀ w', Keep [] w3 w' → IsMid w' 3 (.slice la 0 cc) []) from fun w' K => hm3.keep K (by simp))
  have HM1 := (show Hid (bb ∉ (Value.slice la 0 cc).ownBlock.toList ∧ qb ∉ (Value.slice la 0 cc).ownBlock.toList) from ⟨fun e => m1 (by simpa using e), fun e => m2 (by simpa using e)⟩)
  have hl1 := lt_of_cell2' c13
  have hl2 := lt_of_cell2' c23
  rw [HN.out] at c13
  have c13a : ∀ o, (w3.drew.alloc o).cell? ⟨qb, 1, none⟩ = some (.slice (some ⟨bb, 0, none⟩) n vc) := fun o => ((Keep.alloc [] w3.drew o).cell hl1 (by simp) 1).trans c13
  have c23a : ∀ o, (w3.drew.alloc o).cell? ⟨bb, j, none⟩ = some (.slice la 0 cc) := fun o => ((Keep.alloc [] w3.drew o).cell hl2 (by simp) j).trans c23
  clear hm3 m1 m2 hP3 hr3 n1 n2 HP HT HT0 HH HC HC0 HB c0 c1 c2 hK1 c0a c1a c2a
  go_region_law (first | (refine step_append_mid _ rfl (.tmp 44) (.tmp 46) 23 rfl 3 i0 Tryz.underlying23 hI.out (.slice la 0 cc) [] rfl (HM.out _ (by first | exact (Keep.drew [] _).trans (Keep.alloc [] _ _) | exact (Keep.alloc [] _ _).trans (Keep.drew [] _))) w3.heap.size a 1 rfl (cell_of_one (heap_alloc_new _ _)) (by simp) ?_; intro v5 w5 hm5 hk5 hb5; obtain ⟨l5, c5, rfl⟩ := hm5.form; have hK5 : Keep (Value.slice la 0 cc).ownBlock.toList w3 w5 := ((by first | exact (Keep.drew _ _).trans (Keep.alloc _ _ _) | exact (Keep.alloc _ _ _).trans (Keep.drew _ _)) : Keep (Value.slice la 0 cc).ownBlock.toList w3 _).trans hk5; have HB5 := (show Hid (∀ k, (Value.slice l5 _ c5).ownBlock = some k → (Value.slice la 0 cc).ownBlock = some k ∨ w3.heap.size ≤ k) from fun k e => (hb5 k e).imp id (fun g => by simp at g; omega)); have c15 := (hK5.cell hl1 HM1.out.2 1).trans c13; have c25 := (hK5.cell hl2 HM1.out.1 j).trans c23; have f25 := (World.frozen?_of_block (w := w3) (a := ⟨bb, j, none⟩) (hK5.block bb hl2 HM1.out.1)).trans f3; have HM5 := hid hm5; have HK5 := hid hK5; clear hm5 hk5 hb5 hK5))
  all_goals (go_wp2_with fail)
  all_goals go_ret
  all_goals exact ⟨rfl, Has.queue (HR3.out.qput HJ.out c23 HM5.out HK5.out HB5.out) HQ.out⟩
set_option maxRecDepth 100000 in
set_option maxHeartbeats 3200000 in
theorem qpush_more (j b m : Nat) (a c l y : Int) (f : Bool) (L : List Int) (ws1 ws' : List Int) (w : World) (h : Has w0 F0 (queueA qb hb ws kd ds Ls) w) (hL : Ls[j]? = some (L ++ [y])) (hA : At kd ws a b m 4 c l f) (hS : LinkT kd ws y a ws1) (hT : LinkT kd ws1 a 0 ws') (hl : L.length < 999999) (hx : inI a) :
    Calls Tryz.prog 41 #[.pointer (some ⟨qb, 0, none⟩), .int .i64 j, .int .i64 a] w fun e w' => e = .returned (.int .i64 0) ∧ Has w0 F0 (queueA qb hb ws' kd ds (Ls.set j (L ++ [y] ++ [a]))) w' := by
  obtain ⟨i0, hi, hz0, hz1, hz2⟩ := info_parts Tryz.infoIntQ
  have hI : Hid (Tryz.prog.info? 3 = some i0 ∧ i0.zero = some (.int .i64 0) ∧ i0.size = 1 ∧ i0.bytes = 8) := ⟨hi, hz0, hz1, hz2⟩
  clear hi hz0 hz1 hz2
  have hj := isQ_j hL
  have HQ := (show Hid (QOK (Ls.set j (L ++ [y] ++ [a]))) from h.qok.set j (by simp; omega) (app_bd ((h.qok.2 _ (List.mem_of_getElem? hL)).2) hx.1 hx.2))
  obtain ⟨va, vc, hr⟩ := h.qraw
  obtain ⟨c0, c1, _⟩ := hr.qcells
  have HB := (show Hid (qhasB Ls.length j = true) from qhasB_yes (by omega))
  have HL := hid hL
  have HJ := hid hj
  obtain ⟨bb, v, rfl, c2, _, hm, n1, n2, n3, hp⟩ := hr.qrow hL
  have hLr := (h.qok.2 _ (List.mem_of_getElem? hL)).2
  obtain ⟨lq, cc, rfl⟩ := hm.form
  obtain ⟨hI2, _, _, _⟩ := hm.ints hLr
  obtain ⟨lg, lo, rfl, hlg, hcs⟩ := hI2.cells (by simp)
  have hcy := hcs L.length (by simp)
  rw [snoc_new L y L.length rfl] at hcy
  have hy : inI y := by have := hLr L.length; rw [snoc_new L y L.length rfl] at this; exact this
  obtain ⟨q, hq⟩ : ∃ q, L.length = q := ⟨_, rfl⟩
  obtain ⟨p, hp0⟩ : ∃ p, (L ++ [y]).length = p := ⟨_, rfl⟩
  have hpq : q < p := by rw [← hp0, List.length_append, hq]; simp
  have hp1 : (p : Int) - 1 = (q : Int) := by rw [← hp0, List.length_append, hq]; simp
  have hp2 : p ≤ 1000000 := by rw [← hp0, List.length_append]; simp; omega
  have hdp : decide (0 < p) = true := decide_eq_true (by omega)
  have HPL := (show Hid ((L ++ [y]).length = p) from hp0)
  rw [hq] at hcy
  rw [hp0] at c2 hp n1 n2 hm
  have HP := hid hp
  have HH := hid h.qheap
  have HT := hid hT
  have HT0 := (show Hid (HeadT kd ws a 4 c l f 0) from .yes b m 4 c l f hA)
  obtain ⟨n, hn⟩ : ∃ n, Ls.length = n := ⟨_, rfl⟩
  rw [hn] at c1 hj HB
  have HS := hid hS
  have HC := hid c1
  have HC0 := hid c0
  have HN := hid hn
  clear h hr hL hm hp hT hS hA hn hI2 hcs hLr hp0 hq
  go_enter Tryz.func41, Tryz.ntmps41
  go_upto_region 9 with (first | (go_at_call 43; refine (qhas _ j _ HC.out).mono ?_; rw [HB.out]; rintro e w1 ⟨rfl, rfl⟩) | (go_at_call 69; refine (qisref a 4 c l 0 f _ HH.out HC0.out HT0.out).mono ?_; rintro e w1 ⟨rfl, hK1⟩; have c1a := (hK1.cell (lt_of_cell2' c1) (by simp) 1).trans c1; have c2a := (hK1.cell (lt_of_cell2' c2) (by simp) j).trans c2; have c0a := (hK1.cell (lt_of_cell2' c0) (by simp) 0).trans c0; have hcya := (hK1.cell (lt_of_cell2' hcy) (by simp) (lo + q)).trans hcy) | (go_at_call 44; refine (qlink y a ws1 _ (HP.out.keep0 hK1) c0a HS.out hx).mono ?_; rintro e w2 ⟨rfl, hP2⟩))
  have c0b := (Has.qcells (hP2.unpin).1).1
  go_upto_region 10 with (first | (go_at_call 44; refine (qlink a 0 ws' _ hP2 c0b HT.out inI_0).mono ?_; rintro e w3 ⟨rfl, hP3⟩))
  obtain ⟨hr3, c23⟩ := hP3.unpin
  have HR3 := (show Hid (Has w0 F0 (queueR qb hb (some ⟨bb, 0, none⟩) vc ws' kd ds Ls) w3) from hr3)
  obtain ⟨_, c13, _⟩ := HR3.out.qcells
  obtain ⟨f3, hm3, m1, m2, _⟩ := HR3.out.qrowAt HL.out c23
  have HM := (show Hid (∀ w', Keep [] w3 w' → IsMid w' 3 (.slice (some ⟨lg, lo, none⟩) p cc) (L ++ [y])) from fun w' K => hm3.keep K (by simp))
  have HM1 := (show Hid (bb ∉ (Value.slice (some ⟨lg, lo, none⟩) p cc).ownBlock.toList ∧ qb ∉ (Value.slice (some ⟨lg, lo, none⟩) p cc).ownBlock.toList) from ⟨fun e => m1 (by simpa using e), fun e => m2 (by simpa using e)⟩)
  have hl1 := lt_of_cell2' c13
  have hl2 := lt_of_cell2' c23
  rw [HN.out] at c13
  have c13a : ∀ o, (w3.drew.alloc o).cell? ⟨qb, 1, none⟩ = some (.slice (some ⟨bb, 0, none⟩) n vc) := fun o => ((Keep.alloc [] w3.drew o).cell hl1 (by simp) 1).trans c13
  have c23a : ∀ o, (w3.drew.alloc o).cell? ⟨bb, j, none⟩ = some (.slice (some ⟨lg, lo, none⟩) p cc) := fun o => ((Keep.alloc [] w3.drew o).cell hl2 (by simp) j).trans c23
  clear hm3 m1 m2 hP3 hr3 n1 n2 HP HT HT0 HH HC HC0 HB c0 c1 c2 hK1 c0a c1a c2a
  go_region_law (first | (refine step_append_mid _ rfl (.tmp 44) (.tmp 46) 23 rfl 3 i0 Tryz.underlying23 hI.out (.slice (some ⟨lg, lo, none⟩) p cc) (L ++ [y]) rfl (HM.out _ (by first | exact (Keep.drew [] _).trans (Keep.alloc [] _ _) | exact (Keep.alloc [] _ _).trans (Keep.drew [] _))) w3.heap.size a 1 rfl (cell_of_one (heap_alloc_new _ _)) (by rw [HPL.out]; omega) ?_; intro v5 w5 hm5 hk5 hb5; obtain ⟨l5, c5, rfl⟩ := hm5.form; have hK5 : Keep (Value.slice (some ⟨lg, lo, none⟩) p cc).ownBlock.toList w3 w5 := ((by first | exact (Keep.drew _ _).trans (Keep.alloc _ _ _) | exact (Keep.alloc _ _ _).trans (Keep.drew _ _)) : Keep (Value.slice (some ⟨lg, lo, none⟩) p cc).ownBlock.toList w3 _).trans hk5; have HB5 := (show Hid (∀ k, (Value.slice l5 _ c5).ownBlock = some k → (Value.slice (some ⟨lg, lo, none⟩) p cc).ownBlock = some k ∨ w3.heap.size ≤ k) from fun k e => (hb5 k e).imp id (fun g => by simp at g; omega)); have c15 := (hK5.cell hl1 HM1.out.2 1).trans c13; have c25 := (hK5.cell hl2 HM1.out.1 j).trans c23; have f25 := (World.frozen?_of_block (w := w3) (a := ⟨bb, j, none⟩) (hK5.block bb hl2 HM1.out.1)).trans f3; have HM5 := hid hm5; have HK5 := hid hK5; clear hm5 hk5 hb5 hK5))
  all_goals (go_wp2_with fail)
  all_goals go_ret
  all_goals
    have e2 : (L ++ [y] ++ [a]).length = L.length + 2 := by simp
    have h5 := HM5.out
    have h6 := HB5.out
    rw [e2] at h5 h6
    exact ⟨rfl, Has.queue (HR3.out.qput HJ.out c23 h5 HK5.out h6) HQ.out⟩
/-- Push, whatever is asked. -/
theorem qpush (i a E : Int) (ws' : List Int) (Ls' : List (List Int)) (w : World) (h : Has w0 F0 (queueA qb hb ws kd ds Ls) w) (hT : PushT kd ws Ls i a E ws' Ls') (hx : inI a) (hl : ∀ L, L ∈ Ls → L.length < 999999) :
    Calls Tryz.prog 41 #[.pointer (some ⟨qb, 0, none⟩), .int .i64 i, .int .i64 a] w fun e w' => e = .returned (.int .i64 E) ∧ Has w0 F0 (queueA qb hb ws' kd ds Ls') w' := by
  cases hT with
  | none hi =>
    refine (qpush_none i a w h hi).mono ?_
    rintro e w' ⟨rfl, rfl⟩
    exact ⟨rfl, h⟩
  | kind k c l E f hi hH hk =>
    refine (qpush_kind i a k c l E f w h hi hH hk).mono ?_
    rintro e w' ⟨rfl, hK⟩
    exact ⟨rfl, h.keep0 hK⟩
  | first j b m c l f ws' e hL hA hT =>
    subst e
    exact qpush_first j b m a c l f ws' w h hL hA hT hx
  | more j b m c l y f L ws1 ws' e hL hA hS hT =>
    subst e
    exact qpush_more j b m a c l y f L ws1 ws' w h hL hA hS hT (by have := hl _ (List.mem_of_getElem? hL); simp at this; omega) hx

/-! ### Poll -/
set_option maxHeartbeats 1600000 in
theorem qpoll_none (i : Int) (w : World) (h : Has w0 F0 (queueA qb hb ws kd ds Ls) w) (hi : ¬ IsQ Ls i) :
    Calls Tryz.prog 15 #[.pointer (some ⟨qb, 0, none⟩), .int .i64 i] w fun e w' => e = .returned (.tuple #[.int .i64 0, .int .i64 2]) ∧ w = w' := by
  obtain ⟨va, vc, hr⟩ := h.qraw
  obtain ⟨_, c1, _⟩ := hr.qcells
  have HB := (show Hid (qhasB Ls.length i = false) from qhasB_no hi)
  have HC := (show Hid (w.cell? ⟨qb, 1, none⟩ = some (.slice va Ls.length vc)) from c1)
  clear h hr hi c1
  go_enter Tryz.func15, Tryz.ntmps15
  go_wp2_with (first | (go_at_call 43; refine (qhas _ i _ HC.out).mono ?_; rw [HB.out]; rintro e w1 ⟨rfl, rfl⟩))
  go_ret2
  exact ⟨rfl, rfl⟩
set_option maxHeartbeats 800000 in
theorem qpoll_nil (i : Int) (w : World) :
    Calls Tryz.prog 15 #[.pointer none, .int .i64 i] w fun e w' => e = .returned (.tuple #[.int .i64 0, .int .i64 2]) ∧ w = w' := by
  go_enter Tryz.func15, Tryz.ntmps15
  go_wp2_with (first | (go_at_call 43; refine (qhas_nil i _).mono ?_; rintro e w1 ⟨rfl, rfl⟩))
  go_ret2
  exact ⟨rfl, rfl⟩
set_option maxHeartbeats 1600000 in
theorem qpoll_empty (j : Nat) (w : World) (h : Has w0 F0 (queueA qb hb ws kd ds Ls) w) (hL : Ls[j]? = some []) :
    Calls Tryz.prog 15 #[.pointer (some ⟨qb, 0, none⟩), .int .i64 j] w fun e w' => e = .returned (.tuple #[.int .i64 0, .int .i64 0]) ∧ w = w' := by
  obtain ⟨va, vc, hr⟩ := h.qraw
  obtain ⟨_, c1, _⟩ := hr.qcells
  have hj := isQ_j hL
  have HB := (show Hid (qhasB Ls.length j = true) from qhasB_yes (by omega))
  obtain ⟨bb, v, rfl, c2, _, hm, _⟩ := hr.qrow hL
  obtain ⟨la, cc, rfl⟩ := hm.form
  rw [List.length_nil] at c2
  obtain ⟨n, hn⟩ : ∃ n, Ls.length = n := ⟨_, rfl⟩
  rw [hn] at c1 hj HB
  have HC := hid c1
  clear h hr hL hm hn
  go_enter Tryz.func15, Tryz.ntmps15
  go_wp2_with (first | (go_at_call 43; refine (qhas _ j _ HC.out).mono ?_; rw [HB.out]; rintro e w1 ⟨rfl, rfl⟩))
  go_ret2
  exact ⟨rfl, rfl⟩
set_option maxRecDepth 100000 in
set_option maxHeartbeats 3200000 in
theorem qpoll_yes (j : Nat) (x : Int) (L : List Int) (ws' : List Int) (w : World) (h : Has w0 F0 (queueA qb hb ws kd ds Ls) w) (hL : Ls[j]? = some (x :: L)) (hT : LinkT kd ws x 0 ws') :
    Calls Tryz.prog 15 #[.pointer (some ⟨qb, 0, none⟩), .int .i64 j] w fun e w' => e = .returned (.tuple #[.int .i64 x, .int .i64 0]) ∧ Has w0 F0 (queueA qb hb ws' kd ds (Ls.set j L)) w' := by
  have hj := isQ_j hL
  have hLr := h.qok.2 _ (List.mem_of_getElem? hL)
  have hx : inI x := hLr.2 0
  have HQ := (show Hid (QOK (Ls.set j L)) from h.qok.set j (by have := hLr.1; simp at this; omega) (fun i => by have := hLr.2 (i + 1); simpa using this))
  obtain ⟨va, vc, hr⟩ := h.qraw
  obtain ⟨c0, c1, _⟩ := hr.qcells
  have HB := (show Hid (qhasB Ls.length j = true) from qhasB_yes (by omega))
  have HL := hid hL
  have HJ := hid hj
  obtain ⟨bb, v, rfl, c2, _, hm, n1, n2, n3, hp⟩ := hr.qrow hL
  obtain ⟨lq, cc, rfl⟩ := hm.form
  obtain ⟨hI2, _, _, hcc⟩ := hm.ints hLr.2
  obtain ⟨lg, lo, rfl, hlg, hcs⟩ := hI2.cells (by simp)
  have hcy := hcs 0 (by simp)
  rw [Nat.add_zero] at hcy
  have hcy' : w.cell? ⟨lg, lo, none⟩ = some (.int .i64 x) := by simpa using hcy
  obtain ⟨q, hq⟩ : ∃ q, L.length = q := ⟨_, rfl⟩
  obtain ⟨p, hp0⟩ : ∃ p, (x :: L).length = p := ⟨_, rfl⟩
  have hpq : p = q + 1 := by rw [← hp0, List.length_cons, hq]
  have hp2 : p ≤ 1000000 := by rw [← hp0]; exact hLr.1
  have hdp : (p == 0) = false := by rw [beq_eq_false_iff_ne]; omega
  have hp3 : 0 < p := by omega
  have HPL := (show Hid ((x :: L).length = p) from hp0)
  have HPQ := hid hpq
  have HLQ := hid hq
  rw [hp0] at c2 hp n1 n2 hm hcc
  have HP := hid hp
  have HT := hid hT
  obtain ⟨n, hn⟩ : ∃ n, Ls.length = n := ⟨_, rfl⟩
  rw [hn] at c1 hj HB
  have HN := hid hn
  have HC := hid c1
  have HC0 := hid c0
  clear h hr hL hm hp hT hn hI2 hcs hLr hp0 hq hcy hpq
  go_enter Tryz.func15, Tryz.ntmps15
  go_upto_region 8 with (first | (go_at_call 43; refine (qhas _ j _ HC.out).mono ?_; rw [HB.out]; rintro e w1 ⟨rfl, rfl⟩) | (go_at_call 44; refine (qlink x 0 ws' _ HP.out HC0.out HT.out inI_0).mono ?_; rintro e w3 ⟨rfl, hP3⟩))
  obtain ⟨hr3, c23⟩ := hP3.unpin
  have HR3 := (show Hid (Has w0 F0 (queueR qb hb (some ⟨bb, 0, none⟩) vc ws' kd ds Ls) w3) from hr3)
  obtain ⟨_, c13, _⟩ := HR3.out.qcells
  obtain ⟨f3, hm3, m1, m2, _⟩ := HR3.out.qrowAt HL.out c23
  have HM := (show Hid (IsMid w3 3 (.slice (some ⟨lg, lo, none⟩) p cc) (x :: L)) from hm3)
  rw [HN.out] at c13
  clear hm3 m1 m2 hP3 hr3 n1 n2 HP HT HC HC0 HB c0 c1 c2 hcy'
  have HM2 := (show Hid (IsMid w3 3 (.slice (if cc = 1 then some ⟨lg, lo, none⟩ else some ⟨lg, lo + 1, none⟩) (p - 1) (cc - 1)) L) from by
    have h1 := HM.out
    have h2 : p = L.length + 1 := by rw [HLQ.out]; exact HPQ.out
    subst h2
    exact h1.tail)
  by_cases hc1 : cc = 1
  · subst hc1
    have hp1 := HPQ.out
    obtain rfl : p = 1 := by omega
    have HM3 := (show Hid (IsMid w3 3 (.slice (some ⟨lg, lo, none⟩) 0 0) L) from by show IsMid _ _ _ _; have := HM2.out; simpa using this)
    clear HM2 hp1
    go_region
    all_goals (go_wp2_with fail)
    all_goals go_ret2
    all_goals exact ⟨rfl, Has.queue ((HR3.out.qput HJ.out c23 HM3.out (Keep.refl _ _) (fun k e => .inl (by simpa [Value.ownBlock] using e))).keep0 (Keep.drew [] _)) HQ.out⟩
  · have HM3 := (show Hid (IsMid w3 3 (.slice (some ⟨lg, lo + 1, none⟩) (p - 1) (cc - 1)) L) from by have := HM2.out; rw [if_neg hc1] at this; exact this)
    clear HM2
    go_region
    all_goals (go_wp2_with fail)
    all_goals go_ret2
    all_goals exact ⟨rfl, Has.queue ((HR3.out.qput HJ.out c23 HM3.out (Keep.refl _ _) (fun k e => .inl (by simpa [Value.ownBlock] using e))).keep0 (Keep.drew [] _)) HQ.out⟩
/-- Poll, whatever is asked. -/
theorem qpoll (i N E : Int) (ws' : List Int) (Ls' : List (List Int)) (w : World) (h : Has w0 F0 (queueA qb hb ws kd ds Ls) w) (hT : PollT kd ws Ls i N E ws' Ls') :
    Calls Tryz.prog 15 #[.pointer (some ⟨qb, 0, none⟩), .int .i64 i] w fun e w' => e = .returned (.tuple #[.int .i64 N, .int .i64 E]) ∧ Has w0 F0 (queueA qb hb ws' kd ds Ls') w' := by
  cases hT with
  | none hi =>
    refine (qpoll_none i w h hi).mono ?_
    rintro e w' ⟨rfl, rfl⟩
    exact ⟨rfl, h⟩
  | empty j e hL =>
    subst e
    refine (qpoll_empty j w h hL).mono ?_
    rintro e w' ⟨rfl, rfl⟩
    exact ⟨rfl, h⟩
  | yes j x L ws' e hL hT =>
    subst e
    exact qpoll_yes j N L ws' w h hL hT
end

end Go.Proofs.YtamcoejlghfleaaGreat

/-
  The document's own references in memory: their block, their rows, and the heap that they are of; has, is and Open.
-/
namespace Go.Proofs.YtamcoejlghfleaaGreat
open Go.RowKit

def rObj (mb : Nat) (S : Int) (va : Option Addr) (n vc : Nat) : Obj := .cells #[.pointer (some ⟨mb, 0, none⟩), .slice va n vc, .int .i64 S] 52 (0, 0)
def refsR (rb mb : Nat) (S : Int) (va : Option Addr) (vc : Nat) (ws : List Int) (kd : List PK) (ds : List (Int × List Int)) (Ls : List (List Int)) : Asn :=
  ((blockA rb (rObj mb S va Ls.length vc)).star (llA va vc Ls)).star (rheapA mb ws kd ds)
def refsA (rb mb : Nat) (S : Int) (ws : List Int) (kd : List PK) (ds : List (Int × List Int)) (Ls : List (List Int)) : Asn where
  at' w F := (∃ va vc, (refsR rb mb S va vc ws kd ds Ls).at' w F) ∧ QOK Ls
  keep := fun h K hS => by
    obtain ⟨⟨va, vc, h⟩, e⟩ := h
    exact ⟨⟨va, vc, (refsR rb mb S va vc ws kd ds Ls).keep h K hS⟩, e⟩
  lt := fun h => by
    obtain ⟨⟨va, vc, h⟩, e⟩ := h
    exact (refsR rb mb S va vc ws kd ds Ls).lt h

section
variable {w0 w : World} {F0 : List Nat} {rb mb : Nat} {S : Int} {va : Option Addr} {vc : Nat} {ws : List Int} {kd : List PK} {ds : List (Int × List Int)} {Ls : List (List Int)}
theorem Has.fok (h : Has w0 F0 (refsA rb mb S ws kd ds Ls) w) : QOK Ls := h.fact (fun _ h => h.2)
theorem Has.fraw (h : Has w0 F0 (refsA rb mb S ws kd ds Ls) w) : ∃ va vc, Has w0 F0 (refsR rb mb S va vc ws kd ds Ls) w := by
  obtain ⟨F, ⟨⟨va, vc, h1⟩, _⟩, u⟩ := h
  exact ⟨va, vc, F, h1, u⟩
theorem Has.refs (h : Has w0 F0 (refsR rb mb S va vc ws kd ds Ls) w) (hq : QOK Ls) : Has w0 F0 (refsA rb mb S ws kd ds Ls) w := h.map (fun _ h => ⟨⟨va, vc, h⟩, hq⟩)
theorem Has.fheap (h : Has w0 F0 (refsA rb mb S ws kd ds Ls) w) : Has w0 F0 (rheapA mb ws kd ds) w := by
  obtain ⟨va, vc, h⟩ := h.fraw
  exact h.snd
theorem robj_cells {n : Nat} (h : Has w0 F0 (blockA rb (rObj mb S va n vc)) w) : w.cell? ⟨rb, 0, none⟩ = some (.pointer (some ⟨mb, 0, none⟩)) ∧ w.cell? ⟨rb, 1, none⟩ = some (.slice va n vc) ∧ w.frozen? ⟨rb, 1, none⟩ = false := by
  have h1 : w.heap[rb]? = some (rObj mb S va n vc) := h.fact (fun _ h => h.2)
  unfold rObj at h1
  exact ⟨by simp [World.cell?, h1], by simp [World.cell?, h1], by simp [World.frozen?, h1]⟩
theorem Has.fcells (h : Has w0 F0 (refsR rb mb S va vc ws kd ds Ls) w) : w.cell? ⟨rb, 0, none⟩ = some (.pointer (some ⟨mb, 0, none⟩)) ∧ w.cell? ⟨rb, 1, none⟩ = some (.slice va Ls.length vc) ∧ w.frozen? ⟨rb, 1, none⟩ = false := robj_cells h.fst.fst

set_option maxHeartbeats 1600000 in
theorem fhas (n : Nat) (i : Int) (w : World) (hc : w.cell? ⟨rb, 1, none⟩ = some (.slice va n vc)) :
    Calls Tryz.prog 45 #[.pointer (some ⟨rb, 0, none⟩), .int .i64 i] w fun e w' => e = .returned (.bool (qhasB n i)) ∧ w = w' := by
  by_cases h0 : 0 ≤ i
  · have d0 : decide (0 ≤ i) = true := decide_eq_true h0
    by_cases h1 : i < (n : Int)
    · have d1 : decide (i < (n : Int)) = true := decide_eq_true h1
      have HB := (show Hid (qhasB n i = true) from qhasB_yes ⟨h0, h1⟩)
      go_enter Tryz.func45, Tryz.ntmps45
      go_wp2_with fail
      go_ret
      rw [HB.out]; exact ⟨by simp, rfl⟩
    · have d1 : decide (i < (n : Int)) = false := decide_eq_false h1
      have HB := (show Hid (qhasB n i = false) from qhasB_no (by omega))
      go_enter Tryz.func45, Tryz.ntmps45
      go_wp2_with fail
      go_ret
      rw [HB.out]; exact ⟨by simp, rfl⟩
  · have d0 : decide (0 ≤ i) = false := decide_eq_false h0
    have HB := (show Hid (qhasB n i = false) from qhasB_no (by omega))
    go_enter Tryz.func45, Tryz.ntmps45
    go_wp2_with fail
    go_ret
    rw [HB.out]; exact ⟨by simp, rfl⟩

theorem five_cells {w : World} {b : Nat} {t : TypeId} {a0 a1 a2 a3 a4 : Value} (h : w.heap[b]? = some (.cells #[a0, a1, a2, a3, a4] t (0, 0))) :
    w.cell? ⟨b, 0, none⟩ = some a0 ∧ w.cell? ⟨b, 1, none⟩ = some a1 ∧ w.cell? ⟨b, 2, none⟩ = some a2 ∧ w.cell? ⟨b, 3, none⟩ = some a3 ∧ w.cell? ⟨b, 4, none⟩ = some a4 := by
  refine ⟨?_, ?_, ?_, ?_, ?_⟩ <;> simp [World.cell?, h]
theorem headT_ok {k c l E : Int} {f : Bool} {a : Int} (h : HeadT kd ws a k c l f E) : (E = 0 ∧ okE E = true) ∨ (okE E = false ∧ k = 0) := by
  cases h with
  | no _ => right; exact ⟨rfl, rfl⟩
  | yes b m k c l f _ => left; exact ⟨rfl, rfl⟩
set_option maxHeartbeats 1600000 in
theorem fis (a k c l E : Int) (f : Bool) (w : World) (h : Has w0 F0 (rheapA mb ws kd ds) w) (c0 : w.cell? ⟨rb, 0, none⟩ = some (.pointer (some ⟨mb, 0, none⟩))) (hT : HeadT kd ws a k c l f E) :
    Calls Tryz.prog 38 #[.pointer (some ⟨rb, 0, none⟩), .int .i64 a] w fun e w' => e = .returned (.bool (k == 4)) ∧ Keep [] w w' := by
  have HH := hid h
  have HT := hid hT
  have ho := headT_ok hT
  clear h hT
  rcases ho with ⟨rfl, h1⟩ | ⟨h1, rfl⟩
  · have HO := hid h1
    clear h1
    by_cases hk : k = 4
    · subst hk
      go_enter Tryz.func38, Tryz.ntmps38
      go_wp2_with (first | (go_at_call 39; refine (rhead a 4 c l 0 f _ HH.out HT.out).mono ?_; rw [HO.out]; rintro e w1 ⟨rfl, hK1⟩; have hy := heap_alloc_new w1 (.cells #[.int .i64 4, .int .i64 c, .int .i64 l, .bool f, .bool true] 79); obtain ⟨g0, g1, g2, g3, g4⟩ := five_cells hy))
      go_ret
      exact ⟨by simp, hK1.trans (Keep.alloc [] _ _)⟩
    · have hd : (k == 4) = false := by simpa using hk
      go_enter Tryz.func38, Tryz.ntmps38
      go_wp2_with (first | (go_at_call 39; refine (rhead a k c l 0 f _ HH.out HT.out).mono ?_; rw [HO.out]; rintro e w1 ⟨rfl, hK1⟩; have hy := heap_alloc_new w1 (.cells #[.int .i64 k, .int .i64 c, .int .i64 l, .bool f, .bool true] 79); obtain ⟨g0, g1, g2, g3, g4⟩ := five_cells hy))
      go_ret
      exact ⟨by simp [hd], hK1.trans (Keep.alloc [] _ _)⟩
  · have HO := hid h1
    clear h1
    go_enter Tryz.func38, Tryz.ntmps38
    go_wp2_with (first | (go_at_call 39; refine (rhead a 0 c l E f _ HH.out HT.out).mono ?_; rw [HO.out]; rintro e w1 ⟨rfl, hK1⟩; have hy := heap_alloc_new w1 (.cells #[.int .i64 0, .int .i64 c, .int .i64 l, .bool f, .bool false] 79); obtain ⟨g0, g1, g2, g3, g4⟩ := five_cells hy))
    go_ret
    exact ⟨by simp, hK1.trans (Keep.alloc [] _ _)⟩
end

end Go.Proofs.YtamcoejlghfleaaGreat

/-
  append of integers at a step of a region that draws, onto a row of one's own; pieces of a list. It speaks of no program.
-/
namespace Go.Proofs.YtamcoejlghfleaaGreat
open Go.RowKit

theorem own_cap {w : World} {base : Nat} {e : TypeId} {b off q c : Nat} {xs : List Value} {v : Value} (h : w.ownsRow base e 1 v q xs) (hv : v = .slice (some ⟨b, off, none⟩) q c) : q ≤ c := by
  rcases h.2 with ⟨h1, _⟩ | ⟨g, cap, cur, h1, _, _, h2, _⟩
  · rw [hv] at h1; cases h1
  · rw [hv] at h1; cases h1; exact h2
/-- The builtin append of integers at a step of a region that draws, whatever is appended: nil, empty, or not. -/
theorem step_append_ints {P : Program} {w : World} {ops : Array Oper} {o : Oper} {a : Act} {K : Act → World → Prop} {Q : Exit → Act → World → Prop} {E : Prop} (hgd : o.guard = none) (s x : Operand) (t : TypeId)
    (ho : o.op = .call { callee := .builtin .append, args := #[s, x], argTypes := #[t, t] })
    (base : Nat) (e : TypeId) (i : TypeInfo) (ht : P.underlying t = some (.slice e)) (hi : P.info? e = some i ∧ i.zero = some (.int .i64 0) ∧ i.size = 1 ∧ i.bytes = 8)
    (v : Value) (n : Nat) (L M : List Int) (hs : a.eval s = v) (hown : w.ownsRow base e 1 v n (ints L)) (xa : Option Addr) (m c : Nat) (hm : M.length = m)
    (hx : a.eval x = .slice xa m c) (hM : IntsAt w xa M) (hc : xa = none → c = 0) (hl : n + m ≤ 1000000) (hbase : base ≤ w.heap.size)
    (h : ∀ v' w', w'.ownsRow base e 1 v' (n + m) (ints (L ++ M)) → w.grownBy w' v.ownBlock → K (a.put o.dst v') w') :
    if Region.wanted o (yielded ops a.tmps) = true then Oper.wp P o a w K Q else E := by
  have hw : Region.wanted o (yielded ops a.tmps) = true := by simp [Region.wanted, hgd]
  rw [if_pos hw]
  obtain ⟨h1, h2, h3, h4⟩ := hi
  cases xa with
  | none =>
    have h0 : M = [] := by
      rcases Nat.eq_zero_or_pos M.length with h0 | h0
      · exact List.length_eq_zero_iff.1 h0
      · obtain ⟨_, _, e, _⟩ := hM.cells h0; cases e
    subst h0
    subst hm
    obtain rfl := hc rfl
    have hrun := run_append_owned_none (P := P) (w := w) base t o.type e i 1 ht h1 v n _ hown
    unfold Oper.wp
    simp [execOp, ho, resolve, invoke, builtin, hs, hx, hrun, Result.andThen]
    exact h v w (by simpa using hown) (grown_refl _ _)
  | some ad =>
    obtain ⟨v', w', hrun, hown', hg, _⟩ := run_append_own (P := P) w base t o.type e i (.int .i64 0) 1 8 ht h1 h2 h3 h4 rfl (by decide) v n _ hown ad m c (ints M) (by rw [ints_length]; omega) (by
      intro j u hu
      have hj : j < M.length := by
        rcases Nat.lt_or_ge j M.length with hj | hj
        · exact hj
        · rw [List.getElem?_eq_none (by rw [ints_length]; exact hj)] at hu; cases hu
      obtain ⟨b, off, e1, _, hcell⟩ := hM.cells (by omega)
      cases e1
      rw [ints_get M j hj] at hu
      rw [Go.WideShapes.add_plain, hcell j hj]; exact hu) (ints_one _) (by unfold maxLen; omega) (by omega) hbase
    unfold Oper.wp
    simp [execOp, ho, resolve, invoke, builtin, hs, hx, hrun, Result.andThen]
    rw [ints_app] at hown'
    exact h v' w' hown' hg

theorem own_emptyB {w : World} {B base : Nat} {e : TypeId} (h : w.heap[B]? = some (.cells #[] e (0, 0))) (hb : base ≤ B) : w.ownsRow base e 1 (.slice (some ⟨B, 0, none⟩) 0 0) 0 (ints []) :=
  ⟨rfl, .inr ⟨B, 0, #[], rfl, hb, h, Nat.le_refl _, Nat.zero_le _, rfl, rfl⟩⟩
theorem IntsAt.oneB {w : World} {B : Nat} {t : TypeId} {x : Int} (h : w.heap[B]? = some (.cells #[.int .i64 x] t (0, 0))) (h1 : -9223372036854775808 ≤ x) (h2 : x ≤ 9223372036854775807) : IntsAt w (some ⟨B, 0, none⟩) [x] := by
  refine ⟨fun _ => ⟨B, 0, rfl, lt_of_block h, fun i hi => ?_⟩, fun i => ?_, fun i => ?_⟩
  · obtain rfl : i = 0 := by simpa using hi
    exact cell_of_one h
  · rcases i with _ | i <;> simp; omega
  · rcases i with _ | i <;> simp; omega

theorem nA (w : World) (o : Obj) : (w.alloc o).drew.heap[w.heap.size]? = some o := heap_alloc_new w o
theorem nB (w : World) (o p : Obj) : ((w.alloc o).alloc p).drew.heap[w.heap.size]? = some o := by
  show ((w.alloc o).alloc p).heap[w.heap.size]? = some o
  rw [Below.heap_alloc _ _ _ (by simp)]; exact heap_alloc_new w o
theorem nC (w : World) (o p : Obj) : ((w.alloc p).alloc o).drew.heap[w.heap.size + 1]? = some o := by
  have := heap_alloc_new (w.alloc p) o
  rw [World.size_alloc] at this
  exact this
theorem IntsAt.grew {w w' : World} {v : Value} {B : Nat} {t : TypeId} {x : Int} (h : w.heap[B]? = some (.cells #[.int .i64 x] t (0, 0))) (hg : w.grownBy w' v.ownBlock) (hne : v.ownBlock ≠ some B) (h1 : -9223372036854775808 ≤ x) (h2 : x ≤ 9223372036854775807) : IntsAt w' (some ⟨B, 0, none⟩) [x] :=
  IntsAt.oneB (by rw [hg.block B (lt_of_block h) (fun e => hne e.symm)]; exact h) h1 h2
theorem IntsAt.take {w : World} {b off : Nat} {L : List Int} (h : IntsAt w (some ⟨b, off, none⟩) L) (k : Nat) : IntsAt w (some ⟨b, off, none⟩) (L.take k) := by
  refine ⟨fun h0 => ?_, fun i => ?_, fun i => ?_⟩
  · rw [List.length_take] at h0
    obtain ⟨b', off', e, hb, hc⟩ := h.cells (by omega)
    cases e
    refine ⟨b, off, rfl, hb, fun i hi => ?_⟩
    rw [List.length_take] at hi
    rw [hc i (by omega), List.getElem?_take, if_pos (by omega)]
  · rw [List.getElem?_take]; split
    · exact h.low i
    · simp
  · rw [List.getElem?_take]; split
    · exact h.high i
    · simp
theorem IntsAt.drop {w : World} {b off : Nat} {L : List Int} (h : IntsAt w (some ⟨b, off, none⟩) L) (k : Nat) : IntsAt w (some ⟨b, off + k, none⟩) (L.drop k) := by
  refine ⟨fun h0 => ?_, fun i => ?_, fun i => ?_⟩
  · rw [List.length_drop] at h0
    obtain ⟨b', off', e, hb, hc⟩ := h.cells (by omega)
    cases e
    refine ⟨b, off + k, rfl, hb, fun i hi => ?_⟩
    rw [List.length_drop] at hi
    rw [List.getElem?_drop, ← hc (k + i) (by omega), Nat.add_assoc]
  · rw [List.getElem?_drop]; exact h.low _
  · rw [List.getElem?_drop]; exact h.high _

end Go.Proofs.YtamcoejlghfleaaGreat

/-
  The document's own references: what Open leaves.
-/
namespace Go.Proofs.YtamcoejlghfleaaGreat
open Go.RowKit

section
variable {w0 : World} {F0 : List Nat} {rb mb : Nat} {S : Int} {va : Option Addr} {vc : Nat} {ws : List Int} {kd : List PK} {ds : List (Int × List Int)} {Ls : List (List Int)}

set_option maxHeartbeats 1600000 in
theorem fopen_full (w : World) (h : Has w0 F0 (refsA rb mb S ws kd ds Ls) w) (hf : 8 ≤ Ls.length) :
    Calls Tryz.prog 31 #[.pointer (some ⟨rb, 0, none⟩)] w fun e w' => e = .returned (.agg #[.int .i64 0, .int .i64 3]) ∧ Keep [] w w' := by
  have hK := Keep.alloc [] w (.cells #[.int .i64 0, .int .i64 0] 34)
  have hx := heap_alloc_new w (.cells #[.int .i64 0, .int .i64 0] 34)
  obtain ⟨va, vc, hr⟩ := h.fraw
  obtain ⟨_, c1, _⟩ := (hr.keep0 hK).fcells
  obtain ⟨n, hn⟩ : ∃ n, Ls.length = n := ⟨_, rfl⟩
  rw [hn] at c1 hf
  have hd : decide ((8 : Int) ≤ (n : Int)) = true := decide_eq_true (by omega)
  clear h hr hn
  go_enter Tryz.func31, Tryz.ntmps31
  go_upto_region 1 with fail
  generalize w.alloc (.cells #[.int .i64 0, .int .i64 0] 34) = w1 at *
  obtain ⟨bx, hbx⟩ : ∃ bx, w.heap.size = bx := ⟨_, rfl⟩
  have HBX := hid hbx
  rw [hbx] at hx ⊢
  clear hbx
  obtain ⟨f0, f1⟩ := two_free hx
  obtain ⟨d0, d1⟩ := two_cells hx
  go_wp2_with fail
  obtain ⟨z, hk4⟩ := two_put hx (.int .i64 0) (.int .i64 3)
  refine bodyPost_ret (results_cell_row rfl _ _ bx 34 #[.int .i64 0, .int .i64 3] (0, 0) _ rfl z Tryz.underlying34 rfl (by kernel_rfl)) rfl ?_
  exact ⟨rfl, ((hK.mono (T := [bx]) (by simp)).trans hk4).drop (by have := HBX.out; simp; omega)⟩
set_option maxHeartbeats 3200000 in
theorem fopen_yes (w : World) (h : Has w0 F0 (refsA rb mb S ws kd ds Ls) w) (hf : Ls.length < 8) :
    Calls Tryz.prog 31 #[.pointer (some ⟨rb, 0, none⟩)] w fun e w' => e = .returned (.agg #[.int .i64 (Ls.length : Int), .int .i64 0]) ∧ Has w0 F0 (refsA rb mb S ws kd ds (Ls ++ [[]])) w' := by
  obtain ⟨i0, hi, hz0, hz1, hz2⟩ := info_parts Tryz.infoRowQ
  have hI : Hid (Tryz.prog.info? 23 = some i0 ∧ i0.zero = some (.slice none 0 0) ∧ i0.size = 1 ∧ i0.bytes = 24) := ⟨hi, hz0, hz1, hz2⟩
  clear hi hz0 hz1 hz2
  have HQ := (show Hid (QOK (Ls ++ [[]])) from h.fok.more hf)
  obtain ⟨va, vc, hr⟩ := h.fraw
  have hx := (hr.newB (.cells #[.int .i64 0, .int .i64 0] 34)).assoc.swap
  obtain ⟨_, c1, _⟩ := robj_cells hx.fst.fst
  have hy := heap_alloc_new w (.cells #[.int .i64 0, .int .i64 0] 34)
  go_enter Tryz.func31, Tryz.ntmps31
  go_upto_region 1 with fail
  generalize w.alloc (.cells #[.int .i64 0, .int .i64 0] 34) = w1 at *
  obtain ⟨bx, hbx⟩ : ∃ bx, w.heap.size = bx := ⟨_, rfl⟩
  rw [hbx] at hx hy ⊢
  obtain ⟨vs, hv1, hv2, hv3, hv4⟩ := hx.llOwn
  have HX := hid hx
  have HV2 := (show Hid (∀ o, (w1.alloc o).ownsRow 0 23 1 (.slice va Ls.length vc) Ls.length vs) from fun o => hv2.alloc o)
  have hne := hx.llNe
  obtain ⟨n, hn⟩ : ∃ n, Ls.length = n := ⟨_, rfl⟩
  have HN := (show Hid (Ls.length = n) from hn)
  rw [hn] at c1 hf hv4 HV2
  have HV4 := hid hv4
  have hd : decide ((8 : Int) ≤ (n : Int)) = false := decide_eq_false (by omega)
  clear h hx hr hv1 hv2 hv3 hv4 hn hbx hy
  go_upto_region 4 with (first | (at_builtin; refine wpList_append_lies _ rfl (.tmp 14) (.tmp 15) 50 rfl 0 23 i0 (.slice none 0 0) 1 24 Tryz.underlying50 hI.out.1 hI.out.2.1 hI.out.2.2.1 hI.out.2.2.2 rfl (by decide) (.slice va n vc) n vs rfl (HV2.out _) ⟨w1.heap.size, 0, none⟩ 1 1 [.slice none 0 0] rfl rfl (World.news_of_block (heap_alloc_new w1 _)) (by intro u hu; simp at hu; subst hu; rfl) (by omega) (by unfold maxLen; omega) (by omega) (by omega) (w1.heap.size + 1) (by simp) ?_; intro g cap w4 hown hgrow hat hlt; have hK4 : Keep (va.toList.map (·.block)) w1 w4 := (((Keep.alloc [] w1 _).mono (by simp)).trans (grown_keep hgrow)); have HX4 := hid (HV4.out w4 g cap (w1.heap.size + 1) hown hK4 hat (by omega) hlt); obtain ⟨_, hc4, hf4⟩ := robj_cells HX4.out.fst.fst))
  have h4 := HX4.out.assoc
  have hb4 : w4.heap[rb]? = some (rObj mb S va n vc) := h4.fst.fact (fun _ h => h.2)
  have hb5 := heap_setCell_same w4 rb 1 _ _ (.slice (some ⟨g, 0, none⟩) (n + 1) cap) hb4
  have h5 := (h4.setB (o' := rObj mb S (some ⟨g, 0, none⟩) (n + 1) cap) (Keep.setCell (S := [rb]) w4 (a := ⟨rb, 1, none⟩) (.slice (some ⟨g, 0, none⟩) (n + 1) cap) (by simp)) (by simpa [rObj] using hb5)).assoc'.swap
  have HX5 := hid h5.assoc'
  clear h4 hb4 hb5 h5 HX4 hown hgrow hat hlt hK4 hc4 hf4 HX HV4 HV2 c1
  generalize w4.setCell ⟨rb, 1, none⟩ (.slice (some ⟨g, 0, none⟩) (n + 1) cap) = w5 at *
  obtain ⟨_, c5, _⟩ := robj_cells HX5.out.fst.fst.fst
  have hx5 : w5.heap[bx]? = some (.cells #[.int .i64 0, .int .i64 0] 34 (0, 0)) := HX5.out.snd.fact (fun _ h => h.2)
  obtain ⟨f0, f1⟩ := two_free hx5
  obtain ⟨d0, d1⟩ := two_cells hx5
  go_wp2_with fail
  obtain ⟨z, hk6⟩ := two_put hx5 (.int .i64 n) (.int .i64 0)
  refine bodyPost_ret (results_cell_row rfl _ _ bx 34 #[.int .i64 n, .int .i64 0] (0, 0) _ rfl z Tryz.underlying34 rfl (by kernel_rfl)) rfl ?_
  refine ⟨by rw [HN.out], Has.refs (va := some ⟨g, 0, none⟩) (vc := cap) ?_ HQ.out⟩
  unfold refsR
  rw [List.length_append, HN.out]
  exact (HX5.out.block hk6 z).fst
end

end Go.Proofs.YtamcoejlghfleaaGreat

/-
  A field of a struct that a call has handed back.
-/
namespace Go.Proofs.YtamcoejlghfleaaGreat
open Go.RowKit

theorem headed_ok (k c l : Int) (f o : Bool) (w : World) : (Instr.field 79 (.agg #[.int .i64 k, .int .i64 c, .int .i64 l, .bool f, .bool o]) 1).run Tryz.prog w = .ok (.bool o) w := by
  kernel_rfl
theorem headed_head (k c l : Int) (f o : Bool) (w : World) : (Instr.field 79 (.agg #[.int .i64 k, .int .i64 c, .int .i64 l, .bool f, .bool o]) 0).run Tryz.prog w = .ok (.agg #[.int .i64 k, .int .i64 c, .int .i64 l, .bool f]) w := by
  kernel_rfl
theorem head_class (k c l : Int) (f : Bool) (w : World) : (Instr.field 67 (.agg #[.int .i64 k, .int .i64 c, .int .i64 l, .bool f]) 1).run Tryz.prog w = .ok (.int .i64 c) w := by
  kernel_rfl
theorem got_num (N E : Int) (w : World) : (Instr.field 34 (.agg #[.int .i64 N, .int .i64 E]) 0).run Tryz.prog w = .ok (.int .i64 N) w := by
  kernel_rfl

end Go.Proofs.YtamcoejlghfleaaGreat

/-
  Package object: what upTo, words and Refs answer.
-/
namespace Go.Proofs.YtamcoejlghfleaaGreat
open Go.RowKit

theorem Row.ints {w : World} {t : TypeId} {g : Nat} {L : List Int} (h : Row w t g L) (hb : ∀ i : Nat, inI (L[i]?.getD 0)) : IntsAt w (some ⟨g, 0, none⟩) L :=
  ⟨fun _ => ⟨g, 0, rfl, h.lt, fun i hi => by rw [Nat.zero_add]; exact h.cell hi⟩, fun i => (hb i).1, fun i => (hb i).2⟩
theorem upL_bd (l : Int) (hl : l ≤ 1023) : ∀ i : Nat, inI ((upL l)[i]?.getD 0) := by
  intro i
  by_cases hi : i < l.toNat
  · rw [upL_get l i hi]; unfold inI; omega
  · rw [List.getElem?_eq_none (by rw [upL_length]; omega)]; exact inI_0
/-- The fields of an object of l fields at b. -/
def wordsL (ws : List Int) (b : Nat) (l : Int) : List Int := (List.range l.toNat).map (fun i => ws[b + 1 + i]?.getD 0)
theorem wordsL_length (ws : List Int) (b : Nat) (l : Int) : (wordsL ws b l).length = l.toNat := by simp [wordsL]
theorem wordsL_get (ws : List Int) (b : Nat) (l : Int) (i : Nat) (h : i < l.toNat) : (wordsL ws b l)[i]?.getD 0 = ws[b + 1 + i]?.getD 0 := by simp [wordsL, h]
theorem wordsL_bd {ws : List Int} (h : ∀ i : Nat, inI (ws[i]?.getD 0)) (b : Nat) (l : Int) : ∀ i : Nat, inI ((wordsL ws b l)[i]?.getD 0) := by
  intro i
  by_cases hi : i < l.toNat
  · rw [wordsL_get ws b l i hi]; exact h _
  · rw [List.getElem?_eq_none (by rw [wordsL_length]; omega)]; exact inI_0

section
variable {w0 : World} {F0 : List Nat} {hb : Nat} {ws : List Int} {kd : List PK} {ds : List (Int × List Int)}
set_option maxHeartbeats 1600000 in
theorem owords {sb tb : Nat} (b k : Nat) (l : Int) (w : World) (h : Has w0 F0 (rawA hb sb tb ws kd ds) w) (hk : l = k) (hl : l ≤ 1023) (hlt : b + k < ws.length) (hb0 : b ≤ 20000) :
    Calls Tryz.prog 49 #[.pointer (some ⟨hb, 0, none⟩), .int .i64 b, .int .i64 l] w fun e w' => ∃ z, e = .returned (.slice (some ⟨z, 0, none⟩) k k) ∧ Row w' 3 z (wordsL ws b l) ∧ Keep [] w w' ∧ w.heap.size ≤ z := by
  subst hk
  have hmk : ∀ w, (Instr.makeSlice 23 (.int .i64 (k : Int)) (.int .i64 (k : Int))).run Tryz.prog w = .ok (.slice (some ⟨w.heap.size, 0, none⟩) k k) (w.alloc (.cells (madeCells #[.int .i64 0] k) 3)) :=
    fun w => run_make_row' (P := Tryz.prog) 23 3 (.int .i64 0) 8 Tryz.underlying23 Tryz.infoIntC rfl .i64 .i64 k (by omega) (by omega) w
  have HX := (show Hid (Has w0 F0 (rawA hb sb tb ws kd ds) w) from h)
  clear h
  go_enter Tryz.func49, Tryz.ntmps49
  go_wp2
  have hR := Row.made w 3 k
  have hK := Keep.alloc [] w (.cells (madeCells #[.int .i64 0] k) 3)
  have hz : w.heap.size < (w.alloc (.cells (madeCells #[.int .i64 0] k) 3)).heap.size := by simp
  clear hmk
  generalize w.alloc (.cells (madeCells #[.int .i64 0] k) 3) = w1 at *
  obtain ⟨z, hzz⟩ : ∃ z, w.heap.size = z := ⟨_, rfl⟩
  rw [hzz] at hR hz ⊢
  go_loopw [13] (fun i wr => ∃ (j : Nat) (L : List Int), i = .int .i64 j ∧ j ≤ k ∧ Hid (L.length = k) ∧ Hid (∀ t : Nat, t < j → L[t]?.getD 0 = ws[b + 1 + t]?.getD 0) ∧ Row wr 3 z L ∧ Keep [z] w wr) (fun i _ => k - (intOf i).toNat)
  case atStart => exact ⟨0, _, rfl, by omega, zeros_length k, fun t h => by omega, hR, hK.mono (by simp)⟩
  case round =>
    obtain ⟨j, L, rfl, hj, HL, HJ, hR2, hK2⟩ := hrel
    clear hR hK
    have hK0 : Keep [] w wr := hK2.drop (by simp; omega)
    by_cases hlt2 : j < k
    · have y1 := hR2.cell (i := j) (by rw [HL.out]; exact hlt2)
      have y2 := hR2.free j
      obtain ⟨x, hx⟩ : ∃ x, ws[b + 1 + j]?.getD 0 = x := ⟨_, rfl⟩
      have HV := (show Hid (ws[b + 1 + j]?.getD 0 = x) from hx)
      have HR := (show Hid (Row (wr.setCell ⟨z, j, none⟩ (.int .i64 x)) 3 z (L.set j x)) from hR2.put j _)
      have hK3 : Keep [z] w (wr.setCell ⟨z, j, none⟩ (.int .i64 x)) := hK2.trans (Keep.setCell _ _ (by simp))
      obtain ⟨c0, _, ⟨ab, ag, c2, hAr⟩, _, _⟩ := (HX.out.keep0 hK0).cells
      obtain ⟨p, hp⟩ : ∃ p : Nat, b + 1 + j = p := ⟨_, rfl⟩
      have hpi : (b : Int) + 1 + j = p := by omega
      have hpl : p < ws.length := by omega
      rw [hp] at HV
      clear hR2 hK2 hx hp
      go_wp2_with (first | (go_at_call 66; refine (xload _ ab ag p hAr hpl).mono ?_; rw [HV.out]; rintro e w' ⟨rfl, rfl⟩))
      go_roundw
      case rel =>
        refine ⟨j + 1, L.set j x, by go_num, by omega, by show _ = _; rw [List.length_set]; exact HL.out, fun t ht => ?_, HR.out, hK3⟩
        by_cases e : t = j
        · subst e; rw [set_get_same _ _ _ (by rw [HL.out]; exact hlt2), show b + 1 + t = p by omega]; exact HV.out.symm
        · rw [set_get_other _ _ _ _ (fun e' => e e'.symm)]; exact HJ.out t (by omega)
      case measure => simp [intOf]; omega
    · obtain rfl : j = k := by omega
      have hLe : L = wordsL ws b j := eq_of_getD (by rw [HL.out, wordsL_length]; omega) (fun t => by
        by_cases ht : t < j
        · rw [HJ.out t ht, wordsL_get _ _ _ t (by omega)]
        · rw [List.getElem?_eq_none (by rw [HL.out]; omega), List.getElem?_eq_none (by rw [wordsL_length]; omega)])
      rw [hLe] at hR2
      have HR := (show Hid (Row wr 3 z (wordsL ws b j)) from hR2)
      clear hR2 hLe
      go_wp2
      go_ret
      exact ⟨z, rfl, HR.out, hK0, by omega⟩
theorem two_bd : ∀ i : Nat, inI (([2] : List Int)[i]?.getD 0) := by
  intro i
  rcases i with _ | i <;> simp [inI]
end

end Go.Proofs.YtamcoejlghfleaaGreat

/-
  Package object: what Objects answers: a list in memory of its own.
-/
namespace Go.Proofs.YtamcoejlghfleaaGreat
open Go.RowKit

theorem Tryz.infoObj : (Tryz.prog.info? 86).map (fun i => (i.zero, i.size, i.bytes)) = some (some (.agg #[.int .i64 0, .int .i64 0, .int .i64 0, .int .i64 0, .bool false, .slice none 0 0]), 6, 64) := by kernel_rfl

/-- An object: where it is, its head, its fields. -/
structure OM where
  a : Int
  k : Int
  c : Int
  l : Int
  f : Bool
  L : List Int
/-- One in memory: its fields lie in a row z. -/
structure OV where
  o : OM
  z : Nat
def OV.cells (v : OV) : List Value := [.int .i64 v.o.a, .int .i64 v.o.k, .int .i64 v.o.c, .int .i64 v.o.l, .bool v.o.f, .slice (some ⟨v.z, 0, none⟩) v.o.L.length v.o.L.length]
def flatO (vs : List OV) : List Value := vs.flatMap OV.cells
theorem flatO_app (vs us : List OV) : flatO (vs ++ us) = flatO vs ++ flatO us := by simp [flatO]
theorem flatO_one (v : OV) : flatO [v] = v.cells := by simp [flatO]
theorem flatO_length (vs : List OV) : (flatO vs).length = vs.length * 6 := by
  induction vs with
  | nil => rfl
  | cons c cs ih => simp [flatO, OV.cells] at *; omega
theorem flatO_get (vs : List OV) (i : Nat) (v : OV) (h : vs[i]? = some v) (t : Nat) (ht : t < 6) : (flatO vs)[i * 6 + t]? = v.cells[t]? := by
  induction vs generalizing i with
  | nil => simp at h
  | cons d vs ih =>
    have e : flatO (d :: vs) = d.cells ++ flatO vs := by simp [flatO]
    have hd : d.cells.length = 6 := rfl
    rw [e]
    cases i with
    | zero => simp at h; subst h; rw [List.getElem?_append_left (by omega)]; simp
    | succ i =>
      simp at h
      rw [List.getElem?_append_right (by omega), hd, show (i + 1) * 6 + t - 6 = i * 6 + t by omega]
      exact ih i h

/-- A list of objects that was made since w0. -/
structure ObjsAt (w0 w : World) (va : Option Addr) (n vc : Nat) (vs : List OV) : Prop where
  own : w.ownsRow w0.heap.size 86 6 (.slice va n vc) n (flatO vs)
  len : vs.length = n
  each : ∀ (i : Nat) (v : OV), vs[i]? = some v → Row w 3 v.z v.o.L ∧ w0.heap.size ≤ v.z ∧ ∀ a, va = some a → a.block ≠ v.z
theorem ObjsAt.nil (w0 w : World) : ObjsAt w0 w none 0 0 [] := ⟨World.ownsRow_nil _ _ _ _, rfl, fun i v h => by simp at h⟩
theorem ObjsAt.keep {S : List Nat} {w0 w w' : World} {va : Option Addr} {n vc : Nat} {vs : List OV} (h : ObjsAt w0 w va n vc vs) (K : Keep S w w') (hS : ∀ k, k ∈ S → k < w0.heap.size) : ObjsAt w0 w' va n vc vs := by
  refine ⟨⟨h.own.1, ?_⟩, h.len, fun i v e => ?_⟩
  · rcases h.own.2 with h1 | ⟨g, cap, cur, h1, h2, h3, h4⟩
    · exact .inl h1
    · exact .inr ⟨g, cap, cur, h1, h2, K.blk h3 (fun e => by have := hS g e; omega), h4⟩
  · obtain ⟨h1, h2, h3⟩ := h.each i v e
    exact ⟨h1.keep K (fun e => by have := hS _ e; omega), h2, h3⟩
theorem ObjsAt.added {w0 w w4 : World} {va : Option Addr} {n vc z g cap : Nat} {vs : List OV} {o : OM} {ob : Obj} (h : ObjsAt w0 w va n vc vs) (hz : Row w 3 z o.L) (hz0 : w0.heap.size ≤ z) (hza : ∀ a, va = some a → a.block ≠ z)
    (hown : w4.ownsRow w0.heap.size 86 6 (.slice (some ⟨g, 0, none⟩) (n + 1) cap) (n + 1) (flatO vs ++ OV.cells ⟨o, z⟩)) (hg : (w.alloc ob).grownBy w4 (Value.slice va n vc).ownBlock) (hat : (Value.slice va n vc).ownBlock = some g ∨ g = w.heap.size + 1) :
    ObjsAt w0 w4 (some ⟨g, 0, none⟩) (n + 1) cap (vs ++ [⟨o, z⟩]) := by
  have own : ∀ k, (Value.slice va n vc).ownBlock = some k → ∃ a, va = some a ∧ a.block = k := by
    intro k hk
    cases va with
    | none => simp [Value.ownBlock] at hk
    | some a => simp [Value.ownBlock] at hk; exact ⟨a, rfl, hk⟩
  have row : ∀ y M, Row w 3 y M → (∀ a, va = some a → a.block ≠ y) → Row w4 3 y M ∧ g ≠ y := by
    intro y M hy hne
    have hlt := hy.lt
    refine ⟨?_, fun e => ?_⟩
    · have e1 : (w.alloc ob).heap[y]? = w.heap[y]? := Below.heap_alloc _ _ _ hlt
      have : w4.heap[y]? = (w.alloc ob).heap[y]? := hg.block y (by simp; omega) (fun e => by
        obtain ⟨a, e1, e2⟩ := own y e.symm
        exact hne a e1 e2)
      show w4.heap[y]? = _
      rw [this, e1]; exact hy
    · subst e
      rcases hat with e | e
      · obtain ⟨a, e1, e2⟩ := own _ e
        exact hne a e1 e2
      · omega
  refine ⟨by rw [flatO_app, flatO_one]; exact hown, by simp [h.len], fun i v e => ?_⟩
  rcases Nat.lt_trichotomy i vs.length with hi | hi | hi
  · rw [List.getElem?_append_left hi] at e
    obtain ⟨h1, h2, h3⟩ := h.each i v e
    obtain ⟨r1, r2⟩ := row _ _ h1 h3
    exact ⟨r1, h2, fun a e => by cases e; exact r2⟩
  · subst hi
    simp at e
    subst e
    obtain ⟨r1, r2⟩ := row _ _ hz hza
    exact ⟨r1, hz0, fun a e => by cases e; exact r2⟩
  · rw [List.getElem?_eq_none (by simp; omega)] at e; cases e
theorem ObjsAt.grow {w0 w w4 : World} {va : Option Addr} {n vc : Nat} {vs : List OV} {ob : Obj} (h : ObjsAt w0 w va n vc vs) (K : Keep [] w0 w) (hg : (w.alloc ob).grownBy w4 (Value.slice va n vc).ownBlock) : Keep [] w0 w4 := by
  refine (K.trans (Keep.alloc [] w ob)).grown hg (fun k e => ?_)
  rcases h.own.2 with ⟨h1, _⟩ | ⟨g, cap, cur, h1, h2, _⟩
  · rw [h1] at e; cases e
  · rw [h1] at e; cases e; exact h2

theorem ObjsAt.far {w0 w : World} {va : Option Addr} {n vc : Nat} {vs : List OV} (h : ObjsAt w0 w va n vc vs) (a : Addr) (e : va = some a) : w0.heap.size ≤ a.block ∧ a.block < w.heap.size := by
  rcases h.own.2 with ⟨h1, _⟩ | ⟨g, cap, cur, h1, h2, h3, _⟩
  · cases h1; cases e
  · cases h1; cases e; exact ⟨h2, lt_of_block h3⟩
theorem ObjsAt.base {w0 w1 w : World} {va : Option Addr} {n vc : Nat} {vs : List OV} (h : ObjsAt w1 w va n vc vs) (hs : w0.heap.size ≤ w1.heap.size) : ObjsAt w0 w va n vc vs :=
  ⟨own_base h.own hs, h.len, fun i v e => by obtain ⟨h1, h2, h3⟩ := h.each i v e; exact ⟨h1, by omega, h3⟩⟩

/-- What the words say of the object at a. -/
def objOf (ws : List Int) (a : Int) : OM := ⟨a, wk (ws[a.toNat]?.getD 0), wc (ws[a.toNat]?.getD 0), wl (ws[a.toNat]?.getD 0), wf (ws[a.toNat]?.getD 0), wordsL ws a.toNat (wl (ws[a.toNat]?.getD 0))⟩
def objsK (kd : List PK) (ws : List Int) : List OM := (eachK kd).map (objOf ws)
theorem objsK_length (kd : List PK) (ws : List Int) : (objsK kd ws).length = (eachK kd).length := by simp [objsK]
theorem each_at9 {kd : List PK} {ws : List Int} {ds : List (Int × List Int)} (h : Fine ws kd ds) (j : Nat) (hj : j < (eachK kd).length) : ∃ (b m : Nat) (k c l : Int) (f : Bool), (eachK kd)[j]? = some (b : Int) ∧ At kd ws b b m k c l f ∧ l + 1 ≤ m ∧ objOf ws b = ⟨b, k, c, l, f, wordsL ws b l⟩ := by
  have hm : (eachK kd)[j] ∈ eachTo kd kd.length := List.getElem_mem hj
  obtain ⟨b, n, e, _, _, hf⟩ := h.wf.each_in kd.length _ hm
  obtain ⟨k, c, l, f, h1, h2, _⟩ := h.ob.head b n hf
  obtain ⟨_, _, e1, e2, e3, e4⟩ := h1.parts
  exact ⟨b, n, k, c, l, f, by rw [List.getElem?_eq_getElem hj, e], ⟨rfl, hf, h1⟩, h2, by unfold objOf; rw [Int.toNat_natCast, e1, e2, e3, e4]⟩

theorem oneCells6 (a k c l : Int) (f : Bool) (la : Option Addr) (n lc : Nat) : ∀ u ∈ [Value.int .i64 a, .int .i64 k, .int .i64 c, .int .i64 l, .bool f, .slice la n lc], u.oneCell' = true := by
  intro u hu
  simp at hu
  rcases hu with rfl | rfl | rfl | rfl | rfl | rfl <;> rfl

section
variable {w0 : World} {F0 : List Nat} {hb : Nat} {ws : List Int} {kd : List PK} {ds : List (Int × List Int)}
set_option maxHeartbeats 800000 in
theorem oobjects_nil (w : World) :
    Calls Tryz.prog 20 #[.pointer none] w fun e w' => e = .returned (.slice none 0 0) ∧ w = w' := by
  go_enter Tryz.func20, Tryz.ntmps20
  go_wp2_with fail
  go_ret
  exact ⟨rfl, rfl⟩
set_option maxRecDepth 100000 in
set_option maxHeartbeats 3200000 in
theorem oobjects (w : World) (h : Has w0 F0 (heapA hb ws kd ds) w) :
    Calls Tryz.prog 20 #[.pointer (some ⟨hb, 0, none⟩)] w fun e w' => ∃ va vc vs, e = .returned (.slice va (eachK kd).length vc) ∧ ObjsAt w w' va (eachK kd).length vc vs ∧ vs.map OV.o = objsK kd ws ∧ Keep [] w w' := by
  obtain ⟨i0, hi, hz0, hz1, hz2⟩ := info_parts Tryz.infoObj
  have hI : Hid (Tryz.prog.info? 86 = some i0 ∧ i0.zero = some (.agg #[.int .i64 0, .int .i64 0, .int .i64 0, .int .i64 0, .bool false, .slice none 0 0]) ∧ i0.size = 6 ∧ i0.bytes = 64) := ⟨hi, hz0, hz1, hz2⟩
  clear hi hz0 hz1 hz2
  obtain ⟨sb, tb, hr⟩ := h.raw
  have hfi := h.fine
  have HX := (show Hid (Has w0 F0 (heapA hb ws kd ds) w) from h)
  have HR := (show Hid (Has w0 F0 (rawA hb sb tb ws kd ds) w) from hr)
  have HF := (show Hid (Fine ws kd ds) from hfi)
  obtain ⟨c0, _⟩ := hr.cells
  have hnb : (eachK kd).length ≤ 32 * kd.length := hfi.wf.each_len kd.length
  have hn2 := hfi.wf.len2
  obtain ⟨n, hn⟩ : ∃ n, (eachK kd).length = n := ⟨_, rfl⟩
  have HN := (show Hid ((eachK kd).length = n) from hn)
  rw [hn] at hnb ⊢
  clear h hr hfi hn
  go_enter Tryz.func20, Tryz.ntmps20
  go_wp2_with (first | (go_at_call 47; refine (xeach _ HR.out HF.out.wf).mono ?_; rw [HN.out]; rintro e w1 ⟨la, lc, rfl, hIn, hla, hK1⟩))
  have HI := (show Hid (IntsAt w1 la (eachK kd)) from hIn)
  clear hIn
  go_loopw [3, 16] (fun v i wr => ∃ (j : Nat) (va : Option Addr) (vc : Nat) (vs : List OV), v = .slice va j vc ∧ i = .int .i64 j ∧ j ≤ n ∧ Hid (ObjsAt w1 wr va j vc vs) ∧ Hid (vs.map OV.o = (objsK kd ws).take j) ∧ Keep [] w1 wr) (fun _ i _ => n - (intOf i).toNat)
  case atStart => exact ⟨0, none, 0, [], rfl, rfl, by omega, ObjsAt.nil _ _, by show _ = _; simp, Keep.refl _ _⟩
  case round =>
    obtain ⟨j, va, vc, vs, rfl, rfl, hj, HO, HM, hK⟩ := hrel
    have hKw := hK1.trans hK
    by_cases hlt : j < n
    · obtain ⟨b, m, k, c, l, f, he, hA, hlm, hob⟩ := each_at9 HF.out j (by rw [HN.out]; exact hlt)
      obtain ⟨p, off, rfl, hps, hcell⟩ := HI.out.cells (by rw [HN.out]; omega)
      have hc := (hK.cell hps (by simp) (off + j)).trans (hcell j (by rw [HN.out]; exact hlt))
      rw [he] at hc
      simp only [Option.getD_some] at hc
      have HNX := (show Hid ((objsK kd ws).take (j + 1) = (objsK kd ws).take j ++ [⟨b, k, c, l, f, wordsL ws b l⟩]) from by
        show _ = _
        have : (objsK kd ws)[j]? = some ⟨b, k, c, l, f, wordsL ws b l⟩ := by unfold objsK; rw [List.getElem?_map, he, ← hob]; rfl
        rw [List.take_add_one, this]; rfl)
      obtain ⟨_, e1, e2, e3, e4, e5⟩ := hA.facts HF.out.wf
      have hbd := hA.2.2.bd
      obtain ⟨q, hq⟩ := Int.eq_ofNat_of_zero_le hbd.2.2.2.2.1
      have HQ := (show Hid (l = q) from hq)
      have hwl : b + q < ws.length := by rw [HF.out.len]; omega
      have HT := (show Hid (HeadT kd ws (b : Int) k c l f 0) from .yes b m k c l f hA)
      have HL := (show Hid ((wordsL ws b l).length = q) from by show _ = _; rw [wordsL_length, hq]; rfl)
      have hbb : b ≤ 20000 := by omega
      have hl3 : l ≤ 1023 := by omega
      clear hcell hA hq hbd he hob hlm e1 e2 e3 e4 e5
      go_wp2_with (first | (go_at_call 48; refine (ohead b k c l 0 f _ (HX.out.keep0 hKw) HT.out).mono ?_; rintro e w3 ⟨rfl, hK3⟩; have hx3 := heap_alloc_new w3 (.cells #[.int .i64 k, .int .i64 c, .int .i64 l, .bool f] 67)))
      have hK4 := hKw.trans (hK3.trans (Keep.alloc [] w3 (.cells #[.int .i64 k, .int .i64 c, .int .i64 l, .bool f] 67)))
      have hK4b := hK.trans (hK3.trans (Keep.alloc [] w3 (.cells #[.int .i64 k, .int .i64 c, .int .i64 l, .bool f] 67)))
      have hO4 := HO.out.keep (hK3.trans (Keep.alloc [] w3 (.cells #[.int .i64 k, .int .i64 c, .int .i64 l, .bool f] 67))) (by simp)
      generalize w3.alloc (.cells #[.int .i64 k, .int .i64 c, .int .i64 l, .bool f] 67) = w4 at *
      generalize w3.heap.size = bx at *
      obtain ⟨g0, g1, g2, g3⟩ := four_cells hx3
      have hx5 := (Keep.drew [] w4).blk hx3 (by simp)
      obtain ⟨d0, d1, d2, d3⟩ := four_cells hx5
      have HO5 := (show Hid (ObjsAt w1 w4.drew va j vc vs) from hO4.keep (Keep.drew [] w4) (by simp))
      have HK5 := (show Hid (Keep [] w w4.drew) from hK4.trans (Keep.drew [] w4))
      have HK5b := (show Hid (Keep [] w1 w4.drew) from hK4b.trans (Keep.drew [] w4))
      clear hO4 hK3 HO hc
      go_region_law (first | (refine step_append_lies _ rfl (.tmp 26) (.tmp 35) 56 rfl w1.heap.size 86 i0 (.agg #[.int .i64 0, .int .i64 0, .int .i64 0, .int .i64 0, .bool false, .slice none 0 0]) 6 64 Tryz.underlying56 hI.out.1 hI.out.2.1 hI.out.2.2.1 hI.out.2.2.2 rfl (by decide) (.slice va j vc) j (flatO vs) rfl (HO6.out.keep (Keep.alloc [] w6 _) (by simp)).own ⟨w6.heap.size, 0, none⟩ 1 1 [.int .i64 b, .int .i64 k, .int .i64 c, .int .i64 l, .bool f, .slice (some ⟨z, 0, none⟩) q q] rfl rfl (World.news_of_block (heap_alloc_new w6 _)) (oneCells6 b k c l f _ q q) (by omega) (by unfold maxLen; omega) (by omega) (by have := HK6.out.size; simp; omega) (w6.heap.size + 1) (by simp) ?_; intro g cap w7 hown hgrow hat hltg; have HADD := (show Hid (ObjsAt w1 w7 (some ⟨g, 0, none⟩) (j + 1) cap (vs ++ [⟨⟨b, k, c, l, f, wordsL ws b l⟩, z⟩]) ∧ Keep [] w1 w7) from ⟨HO6.out.added (o := ⟨b, k, c, l, f, wordsL ws b l⟩) HZ.out.1 HZ.out.2.1 HZ.out.2.2 (by unfold OV.cells; rw [HL.out]; exact hown) hgrow hat, HO6.out.grow HK6.out hgrow⟩); clear hown hgrow hat hltg) | (go_simp; refine (owords b q l _ (HR.out.keep0 HK5.out) HQ.out hl3 hwl hbb).mono ?_; rintro e w6 ⟨z, rfl, hRz, hK6, hzz⟩; have hx6 := hK6.blk hx5 (by simp); obtain ⟨p0, p1, p2, p3⟩ := four_cells hx6; have HO6 := (show Hid (ObjsAt w1 w6 va j vc vs) from HO5.out.keep hK6 (by simp)); have HK6 := (show Hid (Keep [] w1 w6) from HK5b.out.trans hK6); have HZ := (show Hid (Row w6 3 z (wordsL ws b l) ∧ w1.heap.size ≤ z ∧ ∀ a, va = some a → a.block ≠ z) from ⟨hRz, by have := HK5b.out.size; omega, fun a e => by have := HO5.out.far a e; omega⟩); clear hRz hzz))
      all_goals (go_wp2_with fail)
      all_goals go_roundw
      all_goals first
        | exact ⟨j + 1, _, _, _, rfl, by go_num, by omega, HADD.out.1, (by show _ = _; rw [HNX.out, List.map_append, HM.out]; rfl), HADD.out.2⟩
        | (simp [intOf]; omega)
    · obtain rfl : j = n := by omega
      have HMM := (show Hid (vs.map OV.o = objsK kd ws) from by
        show _ = _
        rw [HM.out, List.take_of_length_le (by rw [objsK_length, HN.out]; omega)])
      go_wp2_with fail
      go_ret
      exact ⟨va, vc, vs, rfl, HO.out.base hK1.size, HMM.out, hKw⟩
end

end Go.Proofs.YtamcoejlghfleaaGreat

/-
  Room: where all pages from one on are free a block is had, and those behind it stay free. Plain facts.
-/
namespace Go.Proofs.YtamcoejlghfleaaGreat
open Go.RowKit

def FreeFrom (kd : List PK) (s : Nat) : Prop := ∀ t, s ≤ t → kat kd t = .free
theorem FreeFrom.fresh (n : Nat) (h : 1 ≤ n) : FreeFrom (freshK n) 1 := fun t ht => by rw [freshK_at n t h, if_neg (by omega)]
theorem FreeFrom.mono {kd : List PK} {s t : Nat} (h : FreeFrom kd s) (hs : s ≤ t) : FreeFrom kd t := fun u hu => h u (by omega)
theorem run_low {kd : List PK} {s k : Nat} {p : Int} (hk : 1 ≤ k) (hf : FreeFrom kd s) (hs : s + k ≤ kd.length) (h : runR (takenL kd) 0 k = p) : ∃ q : Nat, p = q ∧ q ≤ s := by
  have hc : Clear (takenL kd) s k := ⟨by rw [takenL_length]; omega, fun t a b => by rw [takenL_get, hf t a]; rfl⟩
  rcases runR_spec (takenL kd) k hk _ 0 rfl with ⟨_, h1⟩ | ⟨j, h1, h2⟩
  · exact absurd hc (h1 s (by omega))
  · refine ⟨j, by rw [← h, h1], ?_⟩
    rcases Nat.lt_or_ge s j with h3 | h3
    · exact absurd hc (h2.2.2 s (by omega) h3)
    · exact h3
theorem alloc_from {kd : List PK} {n : Int} {s K : Nat} (hn : 1 ≤ n ∧ n ≤ 1024) (hp : pagesI n ≤ K) (hK : 1 ≤ K) (hs : s + K ≤ kd.length) (hf : FreeFrom kd s) : ∃ a kd', AllocR kd n (some (a, kd')) ∧ FreeFrom kd' (s + K) := by
  obtain ⟨r, hr⟩ := alloc_ex kd n (by have := room_ge n hn.1 hn.2; omega)
  cases r with
  | none =>
    exfalso
    cases hr with
    | full c e1 e2 e3 => obtain ⟨q, e, _⟩ := run_low (by omega) hf (by omega) e3; omega
    | over k e1 e2 e3 e4 => obtain ⟨q, e, _⟩ := run_low e3 hf (by omega) e4; omega
  | some o =>
    obtain ⟨a, kd'⟩ := o
    refine ⟨a, kd', hr, fun t ht => ?_⟩
    cases hr with
    | old c p i xs e1 e2 e3 e4 e5 =>
      rw [kat_set_other _ _ _ _ (fun e => by subst e; rw [hf t (by omega)] at e3; cases e3)]
      exact hf t (by omega)
    | new c p e1 e2 e3 =>
      obtain ⟨q, e, h⟩ := run_low (by omega) hf (by omega) e3
      rw [kat_set_other _ _ _ _ (by omega)]
      exact hf t (by omega)
    | large k p e1 e2 e3 e4 =>
      obtain ⟨q, e, h⟩ := run_low e3 hf (by omega) e4
      rw [putParts_at _ _ _ _ (by omega), if_neg (by omega)]
      exact hf t (by omega)
/-- An object is made. -/
theorem make_from {kd : List PK} {ds : List (Int × List Int)} {k c l : Int} {s K : Nat} (ws : List Int) (hw : WF kd) (hm : mayH k c l false = true) (hF : FitsT ds k c l 0) (hp : pagesI (l + 1) ≤ K) (hK : 1 ≤ K) (hs : s + K ≤ kd.length) (hf : FreeFrom kd s) :
    ∃ (a b : Nat) (kd' : List PK), MakeT kd ws ds k c l false a 0 ((fill0 ws a b).set a (putH k c l false)) kd' ∧ AllocR kd (l + 1) (some (a, kd')) ∧ blockI (l + 1) = b ∧ FreeFrom kd' (s + K) := by
  have hb := mayH_bd hm
  obtain ⟨a, kd', h1, h2⟩ := alloc_from (kd := kd) (n := l + 1) (s := s) (K := K) (by omega) hp hK hs hf
  obtain ⟨b, hb', _⟩ := h1.spec hw
  exact ⟨a, b, kd', .yes a b kd' hm rfl hF h1 hb', h1, hb', h2⟩
theorem may_data (l : Int) (h1 : 0 ≤ l) (h2 : l ≤ 1023) : mayH 3 0 l false = true := by
  rw [mayH_23 _ _ _ (by omega), inB_yes (by omega) (by omega), inB_yes h1 h2]; rfl
theorem may_refs (l : Int) (h1 : 0 ≤ l) (h2 : l ≤ 1023) : mayH 2 0 l false = true := by
  rw [mayH_23 _ _ _ (by omega), inB_yes (by omega) (by omega), inB_yes h1 h2]; rfl
/-- What there is, behind an object that was made. -/
theorem MakeT.at {kd kd' : List PK} {ws : List Int} {k c l : Int} {a b : Nat} (hw : WF kd) (hl : ws.length = 64 * kd.length) (hm : mayH k c l false = true) (hr : AllocR kd (l + 1) (some (a, kd'))) (hb : blockI (l + 1) = b) : At kd' ((fill0 ws a b).set a (putH k c l false)) a a b k c l false := by
  obtain ⟨b', hb', h1, h2, h3, h4, h5, h6, h7⟩ := hr.spec hw
  obtain rfl : b = b' := by rw [hb] at hb'; omega
  refine ⟨rfl, by rw [h7, if_pos (by omega)], ?_⟩
  rw [set_get_same _ _ _ (by rw [fill0_length _ _ _ (by omega)]; omega)]
  exact ⟨hm, rfl⟩
/-- What there was is as it was. -/
theorem At.made {kd kd' : List PK} {ws : List Int} {n x : Int} {a b p m : Nat} {k c l : Int} {f : Bool} (h : At kd ws p p m k c l f) (hw : WF kd) (hl : ws.length = 64 * kd.length) (hr : AllocR kd n (some (a, kd'))) (hb : blockI n = b) : At kd' ((fill0 ws a b).set a x) p p m k c l f ∧ (p + m ≤ a ∨ a + b ≤ p) := by
  obtain ⟨b', hb', h1, h2, h3, h4, h5, h6, h7⟩ := hr.spec hw
  obtain rfl : b = b' := by rw [hb] at hb'; omega
  obtain ⟨_, h8, h9⟩ := h
  obtain ⟨g1, g2, g3, g4, g5, g6⟩ := hw.found h8
  have hd : p + m ≤ a ∨ a + b ≤ p := by
    rcases Nat.lt_or_ge a (p + m) with e1 | e1
    · rcases Nat.lt_or_ge p (a + b) with e2 | e2
      · have := g6 (max a p) (by omega) (by omega)
        rw [h6 (max a p) (by omega) (by omega)] at this
        cases this
      · exact .inr e2
    · exact .inl e1
  refine ⟨⟨rfl, by rw [h7, if_neg (by omega)]; exact h8, ?_⟩, hd⟩
  rw [set_get_other _ _ _ _ (by omega), fill0_get _ _ _ _ (by omega), if_neg (by omega)]
  exact h9

end Go.Proofs.YtamcoejlghfleaaGreat
