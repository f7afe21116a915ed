/-
  Package stack in memory: its block, its row; what New, Push, Pop, Over, Reset and Depth answer and leave.
-/
import Derived.Test.YtjlfjbdkffppeaaRows
import Derived.Test.YtjlfjbdkffppeaaMids
import Derived.Test.YtjlfjbdkffppeaaListC
import Derived.Test.YtjlfjbdkffppeaaSep2
import Derived.Test.YtjlfjbdkffppeaaRet
import Derived.Deep.RegionLaw
namespace Go.Proofs.Ytjlfjbdkffppeaa
open Go.RowKit

theorem Try.infoIntK : (Try.prog.info? 3).map (fun i => (i.zero, i.size, i.bytes)) = some (some (.int .i64 0), 1, 8) := by kernel_rfl
def stkO (n : Nat) (va : Value) (ov : Bool) : Obj := .cells #[va, .int .i64 n, .bool ov] 38 (0, 0)
def stkR (sb n : Nat) (va : Value) (L : List Int) (ov : Bool) : Asn := (blockA sb (stkO n va ov)).star (midA 3 va L)
/-- A stack with room for n: L is there, the last one first to go; ov: it is over. -/
def stkA (sb n : Nat) (L : List Int) (ov : Bool) : Asn where
  at' w F := (∃ va, (stkR sb n va L ov).at' w F) ∧ inR L ∧ L.length ≤ n ∧ n ≤ 4096
  keep := fun h K hS => by
    obtain ⟨⟨va, h⟩, e⟩ := h
    exact ⟨⟨va, (stkR _ _ va _ _).keep h K hS⟩, e⟩
  lt := fun h => by
    obtain ⟨⟨va, h⟩, e⟩ := h
    exact (stkR _ _ va _ _).lt h

theorem cap_lit (a : Addr) (n : Nat) (h : n ≤ 1000) : capOk (some a) n n := ⟨Nat.le_refl _, by omega, fun e => by cases e⟩
theorem cap_nil : capOk none 0 0 := ⟨Nat.le_refl _, by omega, fun _ => rfl⟩
/-- A list that a call is given out of hand lies in a block of its own. -/
def litO (L : List Int) : Obj := .cells (ints L).toArray 3 (0, 0)
theorem ints_lit {w : World} {F : List Nat} {b : Nat} {L : List Int} (h : (blockA b (litO L)).at' w F) (hL : inR L) : IntsAt w (some ⟨b, 0, none⟩) L := by
  refine ⟨fun _ => ⟨b, 0, rfl, lt_of_block h.2, fun i hi => ?_⟩, fun i => (hL i).1, fun i => (hL i).2⟩
  have e := ints_get L i hi
  rw [Nat.zero_add]
  simp [World.cell?, h.2, litO, e]

section
variable {w0 w : World} {F0 : List Nat} {sb n : Nat} {va : Value} {L : List Int} {ov : Bool} {B : Asn}
theorem Has.stkok (h : Has w0 F0 (stkA sb n L ov) w) : inR L ∧ L.length ≤ n ∧ n ≤ 4096 := h.fact (fun _ h => h.2)
theorem Has.straw (h : Has w0 F0 ((stkA sb n L ov).star B) w) : ∃ va, Has w0 F0 ((stkR sb n va L ov).star B) w := by
  obtain ⟨F, ⟨F1, F2, hF, ⟨⟨va, h1⟩, _⟩, h2⟩, u⟩ := h
  exact ⟨va, F, ⟨F1, F2, hF, h1, h2⟩, u⟩
theorem Has.straw0 (h : Has w0 F0 (stkA sb n L ov) w) : ∃ va, Has w0 F0 (stkR sb n va L ov) w := by
  obtain ⟨F, ⟨⟨va, h1⟩, _⟩, u⟩ := h
  exact ⟨va, F, h1, u⟩
theorem Has.stk0 (h : Has w0 F0 (stkR sb n va L ov) w) (h1 : inR L) (h2 : L.length ≤ n) (h3 : n ≤ 4096) : Has w0 F0 (stkA sb n L ov) w := h.map (fun _ h => ⟨⟨va, h⟩, h1, h2, h3⟩)
theorem Has.stk (h : Has w0 F0 ((stkR sb n va L ov).star B) w) (h1 : inR L) (h2 : L.length ≤ n) (h3 : n ≤ 4096) : Has w0 F0 ((stkA sb n L ov).star B) w := by
  obtain ⟨F, ⟨F1, F2, hF, g, g2⟩, u⟩ := h
  exact ⟨F, ⟨F1, F2, hF, ⟨⟨va, g⟩, h1, h2, h3⟩, g2⟩, u⟩
theorem stk_cells (h : w.heap[sb]? = some (stkO n va ov)) : w.cell? ⟨sb, 0, none⟩ = some va ∧ w.cell? ⟨sb, 1, none⟩ = some (.int .i64 n) ∧ w.cell? ⟨sb, 2, none⟩ = some (.bool ov) ∧ w.frozen? ⟨sb, 0, none⟩ = false ∧ w.frozen? ⟨sb, 2, none⟩ = false := by
  unfold stkO at h
  exact ⟨by simp [World.cell?, h], by simp [World.cell?, h], by simp [World.cell?, h], by simp [World.frozen?, h], by simp [World.frozen?, h]⟩
theorem Has.stblock (h : Has w0 F0 (stkR sb n va L ov) w) : w.heap[sb]? = some (stkO n va ov) := h.fst.fact (fun _ h => h.2)
theorem Has.stmid (h : Has w0 F0 (stkR sb n va L ov) w) : IsMid w 3 va L := h.snd.fact (fun _ h => h.2)
theorem Has.stfar (h : Has w0 F0 (stkR sb n va L ov) w) : sb ∉ va.ownBlock.toList := by
  obtain ⟨F, ⟨F1, F2, _, h1, h2, hd⟩, _⟩ := h
  intro e
  exact hd sb (by rw [h1.1]; simp) (by rw [h2.1]; exact e)
/-- The row is another one. -/
theorem Has.stset {w1 : World} {va' : Value} {L' : List Int} (h : Has w0 F0 ((stkR sb n va L ov).star B) w) (K : Keep va.ownBlock.toList w w1) (hm : IsMid w1 3 va' L') (hg : ∀ k, va'.ownBlock = some k → va.ownBlock = some k ∨ w.heap.size ≤ k) :
    Has w0 F0 ((stkR sb n va' L' ov).star B) (w1.setCell ⟨sb, 0, none⟩ va') := by
  have h1 : Has w0 F0 (((blockA sb (stkO n va ov)).star B).star (midA 3 va' L')) w1 := Has.midTurn h.swap K hm hg
  have hb1 : w1.heap[sb]? = some (stkO n va ov) := h1.fst.fst.fact (fun _ h => h.2)
  have h2 := h1.assoc.setB (o' := stkO n va' ov) (Keep.setCell (S := [sb]) w1 (a := ⟨sb, 0, none⟩) va' (by simp)) (by
    have e := heap_setCell_same w1 sb 0 _ _ va' hb1
    simpa [stkO] using e)
  exact h2.assoc'.swap
theorem Has.stover {v : Bool} (h : Has w0 F0 ((stkR sb n va L ov).star B) w) : Has w0 F0 ((stkR sb n va L v).star B) (w.setCell ⟨sb, 2, none⟩ (.bool v)) := by
  have hb1 : w.heap[sb]? = some (stkO n va ov) := h.fst.stblock
  have h2 := h.assoc.setB (o' := stkO n va v) (Keep.setCell (S := [sb]) w (a := ⟨sb, 2, none⟩) (.bool v) (by simp)) (by
    have e := heap_setCell_same w sb 2 _ _ (.bool v) hb1
    simpa [stkO] using e)
  exact h2.assoc'
theorem Has.unit {A : Asn} (h : Has w0 F0 A w) : Has w0 F0 (A.star emptyA) w := h.more (Keep.refl [] _) (B := emptyA) (G := []) rfl (fun k hk => by cases hk)
theorem inR_app {M : List Int} (h : inR L) (h1 : inR M) : inR (L ++ M) := by
  intro i
  by_cases e : i < L.length
  · rw [List.getElem?_append_left e]; exact h i
  · rw [List.getElem?_append_right (by omega)]; exact h1 _
theorem inR_take {k : Nat} (h : inR L) : inR (L.take k) := by
  intro i
  rw [List.getElem?_take]
  split
  · exact h i
  · simp
theorem inR_fst {M : List Int} (h : inR (L ++ M)) : inR L := by
  have := inR_take (k := L.length) h
  rwa [List.take_left] at this
theorem IntsAt.take {xa : Option Addr} {M : List Int} (h : IntsAt w xa M) (k : Nat) : IntsAt w xa (M.take k) := by
  have hR := inR_take (k := k) (L := M) (fun i => ⟨h.low i, h.high i⟩)
  refine ⟨fun h0 => ?_, fun i => (hR i).1, fun i => (hR i).2⟩
  rw [List.length_take] at h0
  obtain ⟨b, off, e, hb, hc⟩ := h.cells (by omega)
  refine ⟨b, off, e, hb, fun i hi => ?_⟩
  rw [List.length_take] at hi
  rw [hc i (by omega), List.getElem?_take, if_pos (by omega)]

set_option maxRecDepth 100000 in
set_option maxHeartbeats 1600000 in
theorem stnew_yes (n : Nat) (w : World) (h1 : 1 ≤ n) (h2 : n ≤ 4096) :
    Calls Try.prog 6 #[.int .i64 n] w fun e w' => ∃ sb, e = .returned (.tuple #[.pointer (some ⟨sb, 0, none⟩), .int .i64 0]) ∧ Has w [] (stkA sb n [] false) w' := by
  have d1 : decide ((n : Int) < 1) = false := decide_eq_false (by omega)
  have d2 : decide ((4096 : Int) < (n : Int)) = false := decide_eq_false (by omega)
  go_enter Try.func6, Try.ntmps6
  go_wp2_with fail
  go_ret2
  have g : Has w [] emptyA w := ⟨[], rfl, Upd.refl (Keep.refl _ _)⟩
  have g1 := (g.newB (stkO n (.slice none 0 0) false)).snd
  have g2 := g1.more (Keep.refl [] _) (B := midA 3 (.slice none 0 0) []) (G := []) ⟨rfl, IsMid.nil _ _⟩ (fun k hk => by cases hk)
  exact ⟨_, rfl, g2.stk0 (fun i => by simp) (by simp) h2⟩
set_option maxRecDepth 100000 in
theorem stnew_no (x : Int) (w : World) (h : x < 1 ∨ 4096 < x) :
    Calls Try.prog 6 #[.int .i64 x] w fun e w' => e = .returned (.tuple #[.pointer none, .int .i64 1]) ∧ Keep [] w w' := by
  by_cases h1 : x < 1
  · have d1 : decide (x < 1) = true := decide_eq_true h1
    go_enter Try.func6, Try.ntmps6
    go_wp2_with fail
    go_ret2
    exact ⟨rfl, Keep.refl _ _⟩
  · have d1 : decide (x < 1) = false := decide_eq_false h1
    have d2 : decide ((4096 : Int) < x) = true := decide_eq_true (by omega)
    go_enter Try.func6, Try.ntmps6
    go_wp2_with fail
    go_ret2
    exact ⟨rfl, Keep.refl _ _⟩
set_option maxRecDepth 100000 in
set_option maxHeartbeats 3200000 in
theorem stpush_fits (xa : Option Addr) (m c r : Nat) (M : List Int) (w : World) (h : Has w0 F0 ((stkR sb n va L ov).star B) w) (hM : IntsAt w xa M) (hm : M.length = m) (hc : capOk xa m c) (hn : n ≤ 4096) (hr0 : r + L.length = n) (hf : m ≤ r) :
    Calls Try.prog 11 #[.pointer (some ⟨sb, 0, none⟩), .slice xa m c] w fun e w' => e = .returned (.int .i64 m) ∧ ∃ va', Has w0 F0 ((stkR sb n va' (L ++ M.take m) ov).star B) w' := by
  obtain ⟨i0, hi, hz0, hz1, hz2⟩ := info_parts Try.infoIntK
  have hI : Hid (Try.prog.info? 3 = some i0 ∧ i0.zero = some (.int .i64 0) ∧ i0.size = 1 ∧ i0.bytes = 8) := ⟨hi, hz0, hz1, hz2⟩
  clear hi hz0 hz1 hz2
  obtain ⟨la, ca, rfl⟩ := h.fst.stmid.form
  obtain ⟨c0, c1, c2, f0, f2⟩ := stk_cells h.fst.stblock
  have hlt := lt_of_block h.fst.stblock
  obtain ⟨q, hq⟩ : ∃ q, L.length = q := ⟨_, rfl⟩
  have hr : (n : Int) - (q : Int) = (r : Int) := by omega
  have d1 : decide ((r : Int) < (m : Int)) = false := decide_eq_false (by omega)
  have d2 : decide ((m : Int) < (m : Int)) = false := decide_eq_false (by omega)
  have hkc : m ≤ c := by have := hc.1; omega
  have HX := hid h
  have HQ := hid hq
  have HB := hid (show q + m ≤ 1000000 by omega)
  have HT := (show Hid ((M.take m).length = m) from by show _ = _; rw [List.length_take]; omega)
  have hmid := h.fst.stmid
  have hfar := h.fst.stfar
  rw [hq] at c0 hmid hfar
  have HM1 := (show Hid (∀ w', Keep [] w w' → IsMid w' 3 (.slice la q ca) L) from fun w' K => hmid.keep K (by simp))
  have HM2 := (show Hid (∀ w', Keep [] w w' → IntsAt w' xa (M.take m)) from fun w' K => (hM.keep K (hM.off (by simp))).take m)
  have HF := hid hfar
  have HBK := hid (lt_of_block h.fst.stblock)
  have HC0 := hid c0
  have HF0 := hid f0
  clear h hM hm hmid hfar hq hc hr0
  go_enter Try.func11, Try.ntmps11
  go_wp2_with fail
  go_region
  go_wp2_with fail
  go_region_law (first | (refine step_append_mids _ rfl (.tmp 25) (.tmp 28) 29 rfl 3 i0 Try.underlying29 hI.out (.slice la q ca) L rfl (HM1.out _ ((Keep.drew [] _).trans (Keep.drew [] _))) xa m c (M.take m) rfl (HM2.out _ ((Keep.drew [] _).trans (Keep.drew [] _))) HT.out (by rw [HQ.out]; exact HB.out) ?_; intro v5 w5 hm5 hk5 hb5; obtain ⟨l5, c5, e5⟩ := hm5.form; generalize (L ++ List.take m M).length = p5 at e5; subst e5; have hK5 : Keep (Value.slice la q ca).ownBlock.toList w w5 := ((Keep.drew _ _).trans (Keep.drew _ _)).trans hk5; have HB5 := (show Hid (∀ k, (Value.slice l5 _ c5).ownBlock = some k → (Value.slice la q ca).ownBlock = some k ∨ w.heap.size ≤ k) from fun k e => (hb5 k e).imp id (fun g => by simpa using g)); have c05 := (hK5.cell HBK.out HF.out 0).trans HC0.out; have f05 := (World.frozen?_of_block (w := w) (a := ⟨sb, 0, none⟩) (hK5.block sb HBK.out HF.out)).trans HF0.out; have HM5 := hid hm5; have HK5 := hid hK5; clear hm5 hk5 hb5 hK5))
  all_goals have hX6 := (by have h := HX.out; rw [HQ.out] at h; exact h.stset HK5.out HM5.out HB5.out)
  all_goals (go_wp2_with fail)
  all_goals go_ret
  all_goals exact ⟨rfl, _, hX6⟩
set_option maxRecDepth 100000 in
set_option maxHeartbeats 3200000 in
theorem stpush_over (xa : Option Addr) (m c r : Nat) (M : List Int) (w : World) (h : Has w0 F0 ((stkR sb n va L ov).star B) w) (hM : IntsAt w xa M) (hm : M.length = m) (hc : capOk xa m c) (hn : n ≤ 4096) (hr0 : r + L.length = n) (hf : r < m) :
    Calls Try.prog 11 #[.pointer (some ⟨sb, 0, none⟩), .slice xa m c] w fun e w' => e = .returned (.int .i64 r) ∧ ∃ va', Has w0 F0 ((stkR sb n va' (L ++ M.take r) true).star B) w' := by
  obtain ⟨i0, hi, hz0, hz1, hz2⟩ := info_parts Try.infoIntK
  have hI : Hid (Try.prog.info? 3 = some i0 ∧ i0.zero = some (.int .i64 0) ∧ i0.size = 1 ∧ i0.bytes = 8) := ⟨hi, hz0, hz1, hz2⟩
  clear hi hz0 hz1 hz2
  obtain ⟨la, ca, rfl⟩ := h.fst.stmid.form
  obtain ⟨c0, c1, c2, f0, f2⟩ := stk_cells h.fst.stblock
  have hlt := lt_of_block h.fst.stblock
  obtain ⟨q, hq⟩ : ∃ q, L.length = q := ⟨_, rfl⟩
  have hr : (n : Int) - (q : Int) = (r : Int) := by omega
  have d1 : decide ((r : Int) < (m : Int)) = true := decide_eq_true (by omega)
  have d2 : decide ((m : Int) < (r : Int)) = false := decide_eq_false (by omega)
  have hkc : r ≤ c := by have := hc.1; omega
  have HX := hid h
  have HQ := hid hq
  have HB := hid (show q + r ≤ 1000000 by omega)
  have HT := (show Hid ((M.take r).length = r) from by show _ = _; rw [List.length_take]; omega)
  have hmid := h.fst.stmid
  have hfar := h.fst.stfar
  rw [hq] at c0 hmid hfar
  have HM1 := (show Hid (∀ w', Keep [] w w' → IsMid w' 3 (.slice la q ca) L) from fun w' K => hmid.keep K (by simp))
  have HM2 := (show Hid (∀ w', Keep [] w w' → IntsAt w' xa (M.take r)) from fun w' K => (hM.keep K (hM.off (by simp))).take r)
  have HF := hid hfar
  have HBK := hid (lt_of_block h.fst.stblock)
  have HC0 := hid c0
  have HF0 := hid f0
  clear h hM hm hmid hfar hq hc hr0
  go_enter Try.func11, Try.ntmps11
  go_wp2_with fail
  go_region
  go_wp2_with fail
  go_region_law (first | (refine step_append_mids _ rfl (.tmp 25) (.tmp 28) 29 rfl 3 i0 Try.underlying29 hI.out (.slice la q ca) L rfl (HM1.out _ ((Keep.drew [] _).trans (Keep.drew [] _))) xa r c (M.take r) rfl (HM2.out _ ((Keep.drew [] _).trans (Keep.drew [] _))) HT.out (by rw [HQ.out]; exact HB.out) ?_; intro v5 w5 hm5 hk5 hb5; obtain ⟨l5, c5, e5⟩ := hm5.form; generalize (L ++ List.take r M).length = p5 at e5; subst e5; have hK5 : Keep (Value.slice la q ca).ownBlock.toList w w5 := ((Keep.drew _ _).trans (Keep.drew _ _)).trans hk5; have HB5 := (show Hid (∀ k, (Value.slice l5 _ c5).ownBlock = some k → (Value.slice la q ca).ownBlock = some k ∨ w.heap.size ≤ k) from fun k e => (hb5 k e).imp id (fun g => by simpa using g)); have c05 := (hK5.cell HBK.out HF.out 0).trans HC0.out; have f05 := (World.frozen?_of_block (w := w) (a := ⟨sb, 0, none⟩) (hK5.block sb HBK.out HF.out)).trans HF0.out; have HM5 := hid hm5; have HK5 := hid hK5; clear hm5 hk5 hb5 hK5))
  all_goals have hX6 := (by have h := HX.out; rw [HQ.out] at h; exact h.stset HK5.out HM5.out HB5.out)
  all_goals
    obtain ⟨_, _, c26, _, f26⟩ := stk_cells hX6.fst.stblock
    have HX6 := hid hX6
    clear hX6
  all_goals (go_wp2_with fail)
  all_goals go_ret
  all_goals exact ⟨rfl, _, HX6.out.stover⟩
theorem stpush (xa : Option Addr) (m c : Nat) (M : List Int) (w : World) (h : Has w0 F0 ((stkA sb n L ov).star B) w) (hM : ∀ L' ov' w', Has w0 F0 ((stkA sb n L' ov').star B) w' → IntsAt w' xa M) (hm : M.length = m) (hc : capOk xa m c) (_ : m ≤ 1000) :
    Calls Try.prog 11 #[.pointer (some ⟨sb, 0, none⟩), .slice xa m c] w fun e w' => e = .returned (.int .i64 (min m (n - L.length) : Nat)) ∧ Has w0 F0 ((stkA sb n (L ++ M.take (n - L.length)) (ov || decide (n - L.length < m))).star B) w' := by
  have hI := hM _ _ _ h
  obtain ⟨h1, h2, h3⟩ := h.fst.stkok
  obtain ⟨va, hr⟩ := h.straw
  have hR : inR (L ++ M.take (n - L.length)) := inR_app h1 (inR_take (fun i => ⟨hI.low i, hI.high i⟩))
  have hl : (L ++ M.take (n - L.length)).length ≤ n := by rw [List.length_append, List.length_take]; omega
  by_cases hf : m ≤ n - L.length
  · refine (stpush_fits xa m c (n - L.length) M w hr hI hm hc h3 (by omega) hf).mono ?_
    rintro e w' ⟨rfl, va', hX⟩
    rw [show min m (n - L.length) = m by omega, show decide (n - L.length < m) = false from decide_eq_false (by omega), Bool.or_false]
    refine ⟨rfl, ?_⟩
    rw [show M.take m = M.take (n - L.length) by rw [List.take_of_length_le (by omega), List.take_of_length_le (by omega)]] at hX
    exact hX.stk hR hl h3
  · refine (stpush_over xa m c (n - L.length) M w hr hI hm hc h3 (by omega) (by omega)).mono ?_
    rintro e w' ⟨rfl, va', hX⟩
    rw [show min m (n - L.length) = n - L.length by omega, show decide (n - L.length < m) = true from decide_eq_true (by omega), Bool.or_true]
    exact ⟨rfl, hX.stk hR hl h3⟩
set_option maxRecDepth 100000 in
set_option maxHeartbeats 1600000 in
theorem stpop_yes (y : Int) (w : World) (h : Has w0 F0 (stkA sb n (L ++ [y]) ov) w) :
    Calls Try.prog 9 #[.pointer (some ⟨sb, 0, none⟩)] w fun e w' => e = .returned (.tuple #[.int .i64 y, .bool true]) ∧ Has w0 F0 (stkA sb n L ov) w' := by
  have HO := hid h.stkok
  obtain ⟨va, h⟩ := h.straw0
  obtain ⟨la, ca, rfl⟩ := h.stmid.form
  obtain ⟨q, hq⟩ : ∃ q, L.length = q := ⟨_, rfl⟩
  have hp : (L ++ [y]).length = q + 1 := by simp [hq]
  rw [hp] at h
  have hm := h.stmid
  obtain ⟨c0, _, _, f0, _⟩ := stk_cells h.stblock
  obtain ⟨g, o, rfl⟩ := hm.some (by omega)
  obtain ⟨cy, _⟩ := mid_cells hm (i := q) (by omega)
  rw [show (L ++ [y])[q]?.getD 0 = y by simp [← hq]] at cy
  have hle := hm.le.2
  have hcut := hm.cut (i := q) (by omega)
  rw [show (L ++ [y]).take q = L by rw [← hq, List.take_left]] at hcut
  have h1 := h.unit.stset (Keep.refl _ _) hcut (fun k e => .inl e)
  have HX := hid h1.fst
  have hqb : q ≤ 4096 := by have := HO.out; simp at this; omega
  have hz : ((q + 1 : Nat) : Int) - 1 = (q : Int) := by omega
  have hz1 : ((q : Int) + 1) - 1 = (q : Int) := by omega
  have d0 : ((q + 1 : Nat) : Int) ≠ 0 := by omega
  have d1 : (((q + 1 : Nat) : Int) == 0) = false := by simp; omega
  have d2 : ((q : Int) + 1 == 0) = false := by simp; omega
  have d3 : q < q + 1 := by omega
  have d4 : q ≤ ca := by omega
  have d5 : (q : Int) < ((q + 1 : Nat) : Int) := by omega
  have d6 : (q : Int) < (q : Int) + 1 := by omega
  clear h hm hcut h1 hq hp hle
  go_enter Try.func9, Try.ntmps9
  go_wp2_with fail
  go_ret2
  exact ⟨rfl, HX.out.stk0 (inR_fst HO.out.1) (by have := HO.out.2.1; simp at this; omega) HO.out.2.2⟩
set_option maxRecDepth 100000 in
set_option maxHeartbeats 1600000 in
theorem stpop_no (w : World) (h : Has w0 F0 (stkA sb n [] ov) w) :
    Calls Try.prog 9 #[.pointer (some ⟨sb, 0, none⟩)] w fun e w' => e = .returned (.tuple #[.int .i64 0, .bool false]) ∧ Has w0 F0 (stkA sb n [] ov) w' := by
  obtain ⟨va, h1⟩ := h.straw0
  obtain ⟨la, ca, rfl⟩ := h1.stmid.form
  obtain ⟨c0, _⟩ := stk_cells h1.stblock
  rw [List.length_nil] at c0
  have HX := hid h
  clear h h1
  go_enter Try.func9, Try.ntmps9
  go_wp2_with fail
  go_ret2
  exact ⟨rfl, HX.out⟩
set_option maxRecDepth 100000 in
theorem stover (w : World) (h : Has w0 F0 (stkA sb n L ov) w) :
    Calls Try.prog 12 #[.pointer (some ⟨sb, 0, none⟩)] w fun e w' => e = .returned (.bool ov) ∧ Keep [] w w' := by
  obtain ⟨va, h⟩ := h.straw0
  obtain ⟨_, _, c2, _⟩ := stk_cells h.stblock
  clear h
  go_enter Try.func12, Try.ntmps12
  go_wp2_with fail
  go_ret
  exact ⟨rfl, Keep.refl _ _⟩
set_option maxRecDepth 100000 in
theorem streset (w : World) (h : Has w0 F0 (stkA sb n L ov) w) :
    Calls Try.prog 10 #[.pointer (some ⟨sb, 0, none⟩)] w fun e w' => e = .returned (.tuple #[]) ∧ Has w0 F0 (stkA sb n L false) w' := by
  have HO := hid h.stkok
  obtain ⟨va, h⟩ := h.straw0
  obtain ⟨_, _, c2, _, f2⟩ := stk_cells h.stblock
  have HX := hid (h.unit.stover (v := false)).fst
  clear h
  go_enter Try.func10, Try.ntmps10
  go_wp2_with fail
  go_end0
  exact ⟨rfl, HX.out.stk0 HO.out.1 HO.out.2.1 HO.out.2.2⟩
set_option maxRecDepth 100000 in
theorem stdepth (w : World) (h : Has w0 F0 (stkA sb n L ov) w) :
    Calls Try.prog 13 #[.pointer (some ⟨sb, 0, none⟩)] w fun e w' => e = .returned (.int .i64 L.length) ∧ Keep [] w w' := by
  obtain ⟨va, h⟩ := h.straw0
  obtain ⟨la, ca, rfl⟩ := h.stmid.form
  obtain ⟨c0, _⟩ := stk_cells h.stblock
  obtain ⟨q, hq⟩ : ∃ q, L.length = q := ⟨_, rfl⟩
  rw [hq] at c0 ⊢
  clear h hq
  go_enter Try.func13, Try.ntmps13
  go_wp2_with fail
  go_ret
  exact ⟨rfl, Keep.refl _ _⟩
end
set_option maxRecDepth 100000 in
theorem stpush_nil (xa : Option Addr) (m c : Nat) (w : World) :
    Calls Try.prog 11 #[.pointer none, .slice xa m c] w fun e w' => e = .returned (.int .i64 0) ∧ Keep [] w w' := by
  go_enter Try.func11, Try.ntmps11
  go_wp2_with fail
  go_ret
  exact ⟨rfl, Keep.refl _ _⟩
set_option maxRecDepth 100000 in
theorem stpop_nil (w : World) :
    Calls Try.prog 9 #[.pointer none] w fun e w' => e = .returned (.tuple #[.int .i64 0, .bool false]) ∧ Keep [] w w' := by
  go_enter Try.func9, Try.ntmps9
  go_wp2_with fail
  go_ret2
  exact ⟨rfl, Keep.refl _ _⟩
set_option maxRecDepth 100000 in
theorem stover_nil (w : World) :
    Calls Try.prog 12 #[.pointer none] w fun e w' => e = .returned (.bool false) ∧ Keep [] w w' := by
  go_enter Try.func12, Try.ntmps12
  go_wp2_with fail
  go_ret
  exact ⟨rfl, Keep.refl _ _⟩
set_option maxRecDepth 100000 in
theorem streset_nil (w : World) :
    Calls Try.prog 10 #[.pointer none] w fun e w' => e = .returned (.tuple #[]) ∧ Keep [] w w' := by
  go_enter Try.func10, Try.ntmps10
  go_wp2_with fail
  go_end0
  exact ⟨rfl, Keep.refl _ _⟩
set_option maxRecDepth 100000 in
theorem stdepth_nil (w : World) :
    Calls Try.prog 13 #[.pointer none] w fun e w' => e = .returned (.int .i64 0) ∧ Keep [] w w' := by
  go_enter Try.func13, Try.ntmps13
  go_wp2_with fail
  go_ret
  exact ⟨rfl, Keep.refl _ _⟩

end Go.Proofs.Ytjlfjbdkffppeaa
