/-
  Contracts of what the statement calls, one text behind the other (ListC, Stk, Trc0, RefsOwn, TrcTurn, TrcPush, TrcReach, Trc, RMarks, RMark).
-/
import Derived.Test.YtgpidokklhjfdaaGreatPart2
import Derived.Test.YtgpidokklhjfdaaGreatPart7
import Derived.Test.YtgpidokklhjfdaaGreatRows
import Derived.Deep.RegionLaw
import Derived.Test.YtgpidokklhjfdaaGreatPart1
import Derived.Test.YtgpidokklhjfdaaGreatPart6

/-
  Lists of integers that came in, with what is known of their capacity; a list of such lists.
-/
namespace Go.Proofs.YtgpidokklhjfdaaGreat
open Go.ChangeShapes Go.WideShapes Go.ChangeAt Go.RowKit

/-- A slice's length and capacity. -/
def capOk (ao : Option Addr) (len cap : Nat) : Prop := len ≤ cap ∧ cap ≤ 9223372036854775807 ∧ (ao = none → cap = 0)
/-- A list of lists of integers in memory, a row of slices, with each one's capacity. -/
structure ListsC (w : World) (ao : Option Addr) (LL : List (List Int)) : Prop where
  cells : 0 < LL.length → ∃ b off, ao = some ⟨b, off, none⟩ ∧ b < w.heap.size ∧ ∀ (i : Nat) (L : List Int), LL[i]? = some L → ∃ xa c, w.cell? ⟨b, off + i, none⟩ = some (.slice xa L.length c) ∧ IntsAt w xa L ∧ capOk xa L.length c
theorem ListsC.keep {w w' : World} {ao : Option Addr} {LL : List (List Int)} (h : ListsC w ao LL) (K : Keep [] w w') : ListsC w' ao LL := by
  refine ⟨fun h0 => ?_⟩
  obtain ⟨b, off, e, hb, hc⟩ := h.cells h0
  refine ⟨b, off, e, Nat.lt_of_lt_of_le hb K.size, fun i L hi => ?_⟩
  obtain ⟨xa, c, h1, h2, h3⟩ := hc i L hi
  exact ⟨xa, c, (K.cell hb (by simp) _).trans h1, h2.keep K (fun _ a _ => by simp), h3⟩
theorem ListsC.nil (w : World) (ao : Option Addr) : ListsC w ao [] := ⟨fun h => by simp at h⟩

section
variable {H : Type} {enc : TypeId × Value → H} {P : Program} {w : World} {base : Nat} {spare : Nat → Bool} {held : Bool}
theorem open_cap {t e : TypeId} {fuel len cap : Nat} {ao : Option Addr} {x : DataW H × List MemPlace} (ht : P.underlying t = some (.slice e)) (ce : P.cellsOf e = 1) (h : DataW.trod enc P w base spare held fuel t [.slice ao len cap] = some x) : capOk ao len cap := by
  rcases Go.Deep.open_slice1 ht ce h with ⟨h0, _⟩ | ⟨a, len', cap', m, n, V, D, Pl, hcs, hb, hl, hm, hmm, _, hx⟩
  · simp at h0
    obtain ⟨rfl, rfl, rfl⟩ := h0
    exact ⟨by omega, by omega, fun _ => rfl⟩
  · simp at hcs
    obtain ⟨rfl, rfl, rfl⟩ := hcs
    unfold maxLen at hm
    exact ⟨hl, by omega, fun e => by cases e⟩
theorem open_listc {t e : TypeId} {k : IntKind} {fuel len cap : Nat} {ao : Option Addr} {x : DataW H × List MemPlace} (ht : P.underlying t = some (.slice e)) (he : P.underlying e = some (.int k))
    (ce : P.cellsOf e = 1) (h : DataW.trod enc P w base spare held fuel t [.slice ao len cap] = some x) :
    len ≤ 9223372036854775807 ∧ ∃ L, ListAt w ao k len L ∧ capOk ao len cap := by
  obtain ⟨h1, L, h2⟩ := open_list ht he ce h
  exact ⟨h1, L, h2, open_cap ht ce h⟩
theorem open_listsc {t e ti : TypeId} {fuel len cap : Nat} {ao : Option Addr} {x : DataW H × List MemPlace} (ht : P.underlying t = some (.slice e)) (he : P.underlying e = some (.slice ti)) (hi : P.underlying ti = some (.int .i64))
    (ce : P.cellsOf e = 1) (ci : P.cellsOf ti = 1) (h : DataW.trod enc P w base spare held fuel t [.slice ao len cap] = some x) :
    len ≤ 9223372036854775807 ∧ ∃ LL, LL.length = len ∧ ListsC w ao LL := by
  rcases Go.Deep.open_slice1 ht ce h with ⟨h0, _⟩ | ⟨a, len', cap', m, n, V, D, Pl, hcs, hb, hl, hm, hmm, _, hx⟩
  · simp at h0
    obtain ⟨rfl, rfl, rfl⟩ := h0
    exact ⟨by omega, [], rfl, ListsC.nil _ _⟩
  · simp at hcs
    obtain ⟨rfl, rfl, rfl⟩ := hcs
    unfold maxLen at hm
    refine ⟨by omega, ?_⟩
    have hlm : len ≤ m := by rw [hmm]; split <;> omega
    have each : ∀ i, ∃ L : List Int, i < len → ∃ xa c, w.cell? (a.add i) = some (.slice xa L.length c) ∧ IntsAt w xa L ∧ capOk xa L.length c := by
      intro i
      by_cases hil : i < len
      · obtain ⟨h1, h2⟩ := hx i (by omega)
        obtain ⟨xa, c, L, e1, _, hI⟩ := open_ints_at he hi ci h2
        rw [e1] at h2
        exact ⟨L, fun _ => ⟨xa, c, by rw [h1, e1], hI, open_cap he ci h2⟩⟩
      · exact ⟨[], fun h => absurd h hil⟩
    obtain ⟨LS, hLS⟩ : ∃ LS : Nat → List Int, ∀ i, i < len → ∃ xa c, w.cell? (a.add i) = some (.slice xa (LS i).length c) ∧ IntsAt w xa (LS i) ∧ capOk xa (LS i).length c := ⟨fun i => Classical.choose (each i), fun i hi => Classical.choose_spec (each i) hi⟩
    clear each
    refine ⟨(List.range len).map LS, by simp, ⟨fun h0 => ?_⟩⟩
    have h0' : 0 < len := by simpa using h0
    obtain ⟨b, off, spot⟩ := a
    obtain ⟨xa0, c0, h1, _⟩ := hLS 0 h0'
    have hspot : spot = none := by simpa [Addr.add] using World.cell?_spot h1
    subst hspot
    refine ⟨b, off, rfl, ?_, fun i L hi => ?_⟩
    · rw [Go.WideShapes.add_plain] at h1; exact lt_of_cell2 h1
    · have hil : i < len := by
        have := (List.getElem?_eq_some_iff.1 hi).1
        simpa using this
      have e1 : L = LS i := by simpa [hil] using hi.symm
      obtain ⟨xa, c, h2, h3⟩ := hLS i hil
      rw [Go.WideShapes.add_plain] at h2
      rw [e1]
      exact ⟨xa, c, h2, h3⟩
end

end Go.Proofs.YtgpidokklhjfdaaGreat

/-
  Package stack in memory: its block, its row; what New, Push, Pop, Over, Reset and Depth answer and leave.
-/
namespace Go.Proofs.YtgpidokklhjfdaaGreat
open Go.RowKit

theorem Tryz.infoIntK : (Tryz.prog.info? 3).map (fun i => (i.zero, i.size, i.bytes)) = some (some (.int .i64 0), 1, 8) := by kernel_rfl
def stkO (n : Nat) (va : Value) (ov : Bool) : Obj := .cells #[va, .int .i64 n, .bool ov] 126 (0, 0)
def stkR (sb n : Nat) (va : Value) (L : List Int) (ov : Bool) : Asn := (blockA sb (stkO n va ov)).star (midA 3 va L)
/-- A stack with room for n: L is there, the last one first to go; ov: it is over. -/
def stkA (sb n : Nat) (L : List Int) (ov : Bool) : Asn where
  at' w F := (∃ va, (stkR sb n va L ov).at' w F) ∧ inR L ∧ L.length ≤ n ∧ n ≤ 4096
  keep := fun h K hS => by
    obtain ⟨⟨va, h⟩, e⟩ := h
    exact ⟨⟨va, (stkR _ _ va _ _).keep h K hS⟩, e⟩
  lt := fun h => by
    obtain ⟨⟨va, h⟩, e⟩ := h
    exact (stkR _ _ va _ _).lt h

theorem cap_lit (a : Addr) (n : Nat) (h : n ≤ 1000) : capOk (some a) n n := ⟨Nat.le_refl _, by omega, fun e => by cases e⟩
theorem cap_nil : capOk none 0 0 := ⟨Nat.le_refl _, by omega, fun _ => rfl⟩
/-- A list that a call is given out of hand lies in a block of its own. -/
def litO (L : List Int) : Obj := .cells (ints L).toArray 3 (0, 0)
theorem ints_lit {w : World} {F : List Nat} {b : Nat} {L : List Int} (h : (blockA b (litO L)).at' w F) (hL : inR L) : IntsAt w (some ⟨b, 0, none⟩) L := by
  refine ⟨fun _ => ⟨b, 0, rfl, lt_of_block h.2, fun i hi => ?_⟩, fun i => (hL i).1, fun i => (hL i).2⟩
  have e := ints_get L i hi
  rw [Nat.zero_add]
  simp [World.cell?, h.2, litO, e]

section
variable {w0 w : World} {F0 : List Nat} {sb n : Nat} {va : Value} {L : List Int} {ov : Bool} {B : Asn}
theorem Has.stkok (h : Has w0 F0 (stkA sb n L ov) w) : inR L ∧ L.length ≤ n ∧ n ≤ 4096 := h.fact (fun _ h => h.2)
theorem Has.straw (h : Has w0 F0 ((stkA sb n L ov).star B) w) : ∃ va, Has w0 F0 ((stkR sb n va L ov).star B) w := by
  obtain ⟨F, ⟨F1, F2, hF, ⟨⟨va, h1⟩, _⟩, h2⟩, u⟩ := h
  exact ⟨va, F, ⟨F1, F2, hF, h1, h2⟩, u⟩
theorem Has.straw0 (h : Has w0 F0 (stkA sb n L ov) w) : ∃ va, Has w0 F0 (stkR sb n va L ov) w := by
  obtain ⟨F, ⟨⟨va, h1⟩, _⟩, u⟩ := h
  exact ⟨va, F, h1, u⟩
theorem Has.stk0 (h : Has w0 F0 (stkR sb n va L ov) w) (h1 : inR L) (h2 : L.length ≤ n) (h3 : n ≤ 4096) : Has w0 F0 (stkA sb n L ov) w := h.map (fun _ h => ⟨⟨va, h⟩, h1, h2, h3⟩)
theorem Has.stk (h : Has w0 F0 ((stkR sb n va L ov).star B) w) (h1 : inR L) (h2 : L.length ≤ n) (h3 : n ≤ 4096) : Has w0 F0 ((stkA sb n L ov).star B) w := by
  obtain ⟨F, ⟨F1, F2, hF, g, g2⟩, u⟩ := h
  exact ⟨F, ⟨F1, F2, hF, ⟨⟨va, g⟩, h1, h2, h3⟩, g2⟩, u⟩
theorem stk_cells (h : w.heap[sb]? = some (stkO n va ov)) : w.cell? ⟨sb, 0, none⟩ = some va ∧ w.cell? ⟨sb, 1, none⟩ = some (.int .i64 n) ∧ w.cell? ⟨sb, 2, none⟩ = some (.bool ov) ∧ w.frozen? ⟨sb, 0, none⟩ = false ∧ w.frozen? ⟨sb, 2, none⟩ = false := by
  unfold stkO at h
  exact ⟨by simp [World.cell?, h], by simp [World.cell?, h], by simp [World.cell?, h], by simp [World.frozen?, h], by simp [World.frozen?, h]⟩
theorem Has.stblock (h : Has w0 F0 (stkR sb n va L ov) w) : w.heap[sb]? = some (stkO n va ov) := h.fst.fact (fun _ h => h.2)
theorem Has.stmid (h : Has w0 F0 (stkR sb n va L ov) w) : IsMid w 3 va L := h.snd.fact (fun _ h => h.2)
theorem Has.stfar (h : Has w0 F0 (stkR sb n va L ov) w) : sb ∉ va.ownBlock.toList := by
  obtain ⟨F, ⟨F1, F2, _, h1, h2, hd⟩, _⟩ := h
  intro e
  exact hd sb (by rw [h1.1]; simp) (by rw [h2.1]; exact e)
/-- The row is another one. -/
theorem Has.stset {w1 : World} {va' : Value} {L' : List Int} (h : Has w0 F0 ((stkR sb n va L ov).star B) w) (K : Keep va.ownBlock.toList w w1) (hm : IsMid w1 3 va' L') (hg : ∀ k, va'.ownBlock = some k → va.ownBlock = some k ∨ w.heap.size ≤ k) :
    Has w0 F0 ((stkR sb n va' L' ov).star B) (w1.setCell ⟨sb, 0, none⟩ va') := by
  have h1 : Has w0 F0 (((blockA sb (stkO n va ov)).star B).star (midA 3 va' L')) w1 := Has.midTurn h.swap K hm hg
  have hb1 : w1.heap[sb]? = some (stkO n va ov) := h1.fst.fst.fact (fun _ h => h.2)
  have h2 := h1.assoc.setB (o' := stkO n va' ov) (Keep.setCell (S := [sb]) w1 (a := ⟨sb, 0, none⟩) va' (by simp)) (by
    have e := heap_setCell_same w1 sb 0 _ _ va' hb1
    simpa [stkO] using e)
  exact h2.assoc'.swap
theorem Has.stover {v : Bool} (h : Has w0 F0 ((stkR sb n va L ov).star B) w) : Has w0 F0 ((stkR sb n va L v).star B) (w.setCell ⟨sb, 2, none⟩ (.bool v)) := by
  have hb1 : w.heap[sb]? = some (stkO n va ov) := h.fst.stblock
  have h2 := h.assoc.setB (o' := stkO n va v) (Keep.setCell (S := [sb]) w (a := ⟨sb, 2, none⟩) (.bool v) (by simp)) (by
    have e := heap_setCell_same w sb 2 _ _ (.bool v) hb1
    simpa [stkO] using e)
  exact h2.assoc'
theorem Has.unit {A : Asn} (h : Has w0 F0 A w) : Has w0 F0 (A.star emptyA) w := h.more (Keep.refl [] _) (B := emptyA) (G := []) rfl (fun k hk => by cases hk)
theorem inR_app {M : List Int} (h : inR L) (h1 : inR M) : inR (L ++ M) := by
  intro i
  by_cases e : i < L.length
  · rw [List.getElem?_append_left e]; exact h i
  · rw [List.getElem?_append_right (by omega)]; exact h1 _
theorem inR_take {k : Nat} (h : inR L) : inR (L.take k) := by
  intro i
  rw [List.getElem?_take]
  split
  · exact h i
  · simp
theorem inR_fst {M : List Int} (h : inR (L ++ M)) : inR L := by
  have := inR_take (k := L.length) h
  rwa [List.take_left] at this
theorem IntsAt.take {xa : Option Addr} {M : List Int} (h : IntsAt w xa M) (k : Nat) : IntsAt w xa (M.take k) := by
  have hR := inR_take (k := k) (L := M) (fun i => ⟨h.low i, h.high i⟩)
  refine ⟨fun h0 => ?_, fun i => (hR i).1, fun i => (hR i).2⟩
  rw [List.length_take] at h0
  obtain ⟨b, off, e, hb, hc⟩ := h.cells (by omega)
  refine ⟨b, off, e, hb, fun i hi => ?_⟩
  rw [List.length_take] at hi
  rw [hc i (by omega), List.getElem?_take, if_pos (by omega)]

set_option maxRecDepth 100000 in
set_option maxHeartbeats 1600000 in
theorem stnew_yes (n : Nat) (w : World) (h1 : 1 ≤ n) (h2 : n ≤ 4096) :
    Calls Tryz.prog 32 #[.int .i64 n] w fun e w' => ∃ sb, e = .returned (.tuple #[.pointer (some ⟨sb, 0, none⟩), .int .i64 0]) ∧ Has w [] (stkA sb n [] false) w' := by
  have d1 : decide ((n : Int) < 1) = false := decide_eq_false (by omega)
  have d2 : decide ((4096 : Int) < (n : Int)) = false := decide_eq_false (by omega)
  go_enter Tryz.func32, Tryz.ntmps32
  go_wp2_with fail
  go_ret2
  have g : Has w [] emptyA w := ⟨[], rfl, Upd.refl (Keep.refl _ _)⟩
  have g1 := (g.newB (stkO n (.slice none 0 0) false)).snd
  have g2 := g1.more (Keep.refl [] _) (B := midA 3 (.slice none 0 0) []) (G := []) ⟨rfl, IsMid.nil _ _⟩ (fun k hk => by cases hk)
  exact ⟨_, rfl, g2.stk0 (fun i => by simp) (by simp) h2⟩
set_option maxRecDepth 100000 in
theorem stnew_no (x : Int) (w : World) (h : x < 1 ∨ 4096 < x) :
    Calls Tryz.prog 32 #[.int .i64 x] w fun e w' => e = .returned (.tuple #[.pointer none, .int .i64 1]) ∧ Keep [] w w' := by
  by_cases h1 : x < 1
  · have d1 : decide (x < 1) = true := decide_eq_true h1
    go_enter Tryz.func32, Tryz.ntmps32
    go_wp2_with fail
    go_ret2
    exact ⟨rfl, Keep.refl _ _⟩
  · have d1 : decide (x < 1) = false := decide_eq_false h1
    have d2 : decide ((4096 : Int) < x) = true := decide_eq_true (by omega)
    go_enter Tryz.func32, Tryz.ntmps32
    go_wp2_with fail
    go_ret2
    exact ⟨rfl, Keep.refl _ _⟩
set_option maxRecDepth 100000 in
set_option maxHeartbeats 3200000 in
theorem stpush_fits (xa : Option Addr) (m c r : Nat) (M : List Int) (w : World) (h : Has w0 F0 ((stkR sb n va L ov).star B) w) (hM : IntsAt w xa M) (hm : M.length = m) (hc : capOk xa m c) (hn : n ≤ 4096) (hr0 : r + L.length = n) (hf : m ≤ r) :
    Calls Tryz.prog 97 #[.pointer (some ⟨sb, 0, none⟩), .slice xa m c] w fun e w' => e = .returned (.int .i64 m) ∧ ∃ va', Has w0 F0 ((stkR sb n va' (L ++ M.take m) ov).star B) w' := by
  obtain ⟨i0, hi, hz0, hz1, hz2⟩ := info_parts Tryz.infoIntK
  have hI : Hid (Tryz.prog.info? 3 = some i0 ∧ i0.zero = some (.int .i64 0) ∧ i0.size = 1 ∧ i0.bytes = 8) := ⟨hi, hz0, hz1, hz2⟩
  clear hi hz0 hz1 hz2
  obtain ⟨la, ca, rfl⟩ := h.fst.stmid.form
  obtain ⟨c0, c1, c2, f0, f2⟩ := stk_cells h.fst.stblock
  have hlt := lt_of_block h.fst.stblock
  obtain ⟨q, hq⟩ : ∃ q, L.length = q := ⟨_, rfl⟩
  have hr : (n : Int) - (q : Int) = (r : Int) := by omega
  have d1 : decide ((r : Int) < (m : Int)) = false := decide_eq_false (by omega)
  have d2 : decide ((m : Int) < (m : Int)) = false := decide_eq_false (by omega)
  have hkc : m ≤ c := by have := hc.1; omega
  have HX := hid h
  have HQ := hid hq
  have HB := hid (show q + m ≤ 1000000 by omega)
  have HT := (show Hid ((M.take m).length = m) from by show _ = _; rw [List.length_take]; omega)
  have hmid := h.fst.stmid
  have hfar := h.fst.stfar
  rw [hq] at c0 hmid hfar
  have HM1 := (show Hid (∀ w', Keep [] w w' → IsMid w' 3 (.slice la q ca) L) from fun w' K => hmid.keep K (by simp))
  have HM2 := (show Hid (∀ w', Keep [] w w' → IntsAt w' xa (M.take m)) from fun w' K => (hM.keep K (hM.off (by simp))).take m)
  have HF := hid hfar
  have HBK := hid (lt_of_block h.fst.stblock)
  have HC0 := hid c0
  have HF0 := hid f0
  clear h hM hm hmid hfar hq hc hr0
  go_enter Tryz.func97, Tryz.ntmps97
  go_wp2_with fail
  go_region
  go_wp2_with fail
  go_region_law (first | (refine step_append_mids _ rfl (.tmp 25) (.tmp 28) 25 rfl 3 i0 Tryz.underlying25 hI.out (.slice la q ca) L rfl (HM1.out _ ((Keep.drew [] _).trans (Keep.drew [] _))) xa m c (M.take m) rfl (HM2.out _ ((Keep.drew [] _).trans (Keep.drew [] _))) HT.out (by rw [HQ.out]; exact HB.out) ?_; intro v5 w5 hm5 hk5 hb5; obtain ⟨l5, c5, e5⟩ := hm5.form; generalize (L ++ List.take m M).length = p5 at e5; subst e5; have hK5 : Keep (Value.slice la q ca).ownBlock.toList w w5 := ((Keep.drew _ _).trans (Keep.drew _ _)).trans hk5; have HB5 := (show Hid (∀ k, (Value.slice l5 _ c5).ownBlock = some k → (Value.slice la q ca).ownBlock = some k ∨ w.heap.size ≤ k) from fun k e => (hb5 k e).imp id (fun g => by simpa using g)); have c05 := (hK5.cell HBK.out HF.out 0).trans HC0.out; have f05 := (World.frozen?_of_block (w := w) (a := ⟨sb, 0, none⟩) (hK5.block sb HBK.out HF.out)).trans HF0.out; have HM5 := hid hm5; have HK5 := hid hK5; clear hm5 hk5 hb5 hK5))
  all_goals have hX6 := (by have h := HX.out; rw [HQ.out] at h; exact h.stset HK5.out HM5.out HB5.out)
  all_goals (go_wp2_with fail)
  all_goals go_ret
  all_goals exact ⟨rfl, _, hX6⟩
set_option maxRecDepth 100000 in
set_option maxHeartbeats 3200000 in
theorem stpush_over (xa : Option Addr) (m c r : Nat) (M : List Int) (w : World) (h : Has w0 F0 ((stkR sb n va L ov).star B) w) (hM : IntsAt w xa M) (hm : M.length = m) (hc : capOk xa m c) (hn : n ≤ 4096) (hr0 : r + L.length = n) (hf : r < m) :
    Calls Tryz.prog 97 #[.pointer (some ⟨sb, 0, none⟩), .slice xa m c] w fun e w' => e = .returned (.int .i64 r) ∧ ∃ va', Has w0 F0 ((stkR sb n va' (L ++ M.take r) true).star B) w' := by
  obtain ⟨i0, hi, hz0, hz1, hz2⟩ := info_parts Tryz.infoIntK
  have hI : Hid (Tryz.prog.info? 3 = some i0 ∧ i0.zero = some (.int .i64 0) ∧ i0.size = 1 ∧ i0.bytes = 8) := ⟨hi, hz0, hz1, hz2⟩
  clear hi hz0 hz1 hz2
  obtain ⟨la, ca, rfl⟩ := h.fst.stmid.form
  obtain ⟨c0, c1, c2, f0, f2⟩ := stk_cells h.fst.stblock
  have hlt := lt_of_block h.fst.stblock
  obtain ⟨q, hq⟩ : ∃ q, L.length = q := ⟨_, rfl⟩
  have hr : (n : Int) - (q : Int) = (r : Int) := by omega
  have d1 : decide ((r : Int) < (m : Int)) = true := decide_eq_true (by omega)
  have d2 : decide ((m : Int) < (r : Int)) = false := decide_eq_false (by omega)
  have hkc : r ≤ c := by have := hc.1; omega
  have HX := hid h
  have HQ := hid hq
  have HB := hid (show q + r ≤ 1000000 by omega)
  have HT := (show Hid ((M.take r).length = r) from by show _ = _; rw [List.length_take]; omega)
  have hmid := h.fst.stmid
  have hfar := h.fst.stfar
  rw [hq] at c0 hmid hfar
  have HM1 := (show Hid (∀ w', Keep [] w w' → IsMid w' 3 (.slice la q ca) L) from fun w' K => hmid.keep K (by simp))
  have HM2 := (show Hid (∀ w', Keep [] w w' → IntsAt w' xa (M.take r)) from fun w' K => (hM.keep K (hM.off (by simp))).take r)
  have HF := hid hfar
  have HBK := hid (lt_of_block h.fst.stblock)
  have HC0 := hid c0
  have HF0 := hid f0
  clear h hM hm hmid hfar hq hc hr0
  go_enter Tryz.func97, Tryz.ntmps97
  go_wp2_with fail
  go_region
  go_wp2_with fail
  go_region_law (first | (refine step_append_mids _ rfl (.tmp 25) (.tmp 28) 25 rfl 3 i0 Tryz.underlying25 hI.out (.slice la q ca) L rfl (HM1.out _ ((Keep.drew [] _).trans (Keep.drew [] _))) xa r c (M.take r) rfl (HM2.out _ ((Keep.drew [] _).trans (Keep.drew [] _))) HT.out (by rw [HQ.out]; exact HB.out) ?_; intro v5 w5 hm5 hk5 hb5; obtain ⟨l5, c5, e5⟩ := hm5.form; generalize (L ++ List.take r M).length = p5 at e5; subst e5; have hK5 : Keep (Value.slice la q ca).ownBlock.toList w w5 := ((Keep.drew _ _).trans (Keep.drew _ _)).trans hk5; have HB5 := (show Hid (∀ k, (Value.slice l5 _ c5).ownBlock = some k → (Value.slice la q ca).ownBlock = some k ∨ w.heap.size ≤ k) from fun k e => (hb5 k e).imp id (fun g => by simpa using g)); have c05 := (hK5.cell HBK.out HF.out 0).trans HC0.out; have f05 := (World.frozen?_of_block (w := w) (a := ⟨sb, 0, none⟩) (hK5.block sb HBK.out HF.out)).trans HF0.out; have HM5 := hid hm5; have HK5 := hid hK5; clear hm5 hk5 hb5 hK5))
  all_goals have hX6 := (by have h := HX.out; rw [HQ.out] at h; exact h.stset HK5.out HM5.out HB5.out)
  all_goals
    obtain ⟨_, _, c26, _, f26⟩ := stk_cells hX6.fst.stblock
    have HX6 := hid hX6
    clear hX6
  all_goals (go_wp2_with fail)
  all_goals go_ret
  all_goals exact ⟨rfl, _, HX6.out.stover⟩
theorem stpush (xa : Option Addr) (m c : Nat) (M : List Int) (w : World) (h : Has w0 F0 ((stkA sb n L ov).star B) w) (hM : ∀ L' ov' w', Has w0 F0 ((stkA sb n L' ov').star B) w' → IntsAt w' xa M) (hm : M.length = m) (hc : capOk xa m c) (_ : m ≤ 1000) :
    Calls Tryz.prog 97 #[.pointer (some ⟨sb, 0, none⟩), .slice xa m c] w fun e w' => e = .returned (.int .i64 (min m (n - L.length) : Nat)) ∧ Has w0 F0 ((stkA sb n (L ++ M.take (n - L.length)) (ov || decide (n - L.length < m))).star B) w' := by
  have hI := hM _ _ _ h
  obtain ⟨h1, h2, h3⟩ := h.fst.stkok
  obtain ⟨va, hr⟩ := h.straw
  have hR : inR (L ++ M.take (n - L.length)) := inR_app h1 (inR_take (fun i => ⟨hI.low i, hI.high i⟩))
  have hl : (L ++ M.take (n - L.length)).length ≤ n := by rw [List.length_append, List.length_take]; omega
  by_cases hf : m ≤ n - L.length
  · refine (stpush_fits xa m c (n - L.length) M w hr hI hm hc h3 (by omega) hf).mono ?_
    rintro e w' ⟨rfl, va', hX⟩
    rw [show min m (n - L.length) = m by omega, show decide (n - L.length < m) = false from decide_eq_false (by omega), Bool.or_false]
    refine ⟨rfl, ?_⟩
    rw [show M.take m = M.take (n - L.length) by rw [List.take_of_length_le (by omega), List.take_of_length_le (by omega)]] at hX
    exact hX.stk hR hl h3
  · refine (stpush_over xa m c (n - L.length) M w hr hI hm hc h3 (by omega) (by omega)).mono ?_
    rintro e w' ⟨rfl, va', hX⟩
    rw [show min m (n - L.length) = n - L.length by omega, show decide (n - L.length < m) = true from decide_eq_true (by omega), Bool.or_true]
    exact ⟨rfl, hX.stk hR hl h3⟩
set_option maxRecDepth 100000 in
set_option maxHeartbeats 1600000 in
theorem stpop_yes (y : Int) (w : World) (h : Has w0 F0 (stkA sb n (L ++ [y]) ov) w) :
    Calls Tryz.prog 67 #[.pointer (some ⟨sb, 0, none⟩)] w fun e w' => e = .returned (.tuple #[.int .i64 y, .bool true]) ∧ Has w0 F0 (stkA sb n L ov) w' := by
  have HO := hid h.stkok
  obtain ⟨va, h⟩ := h.straw0
  obtain ⟨la, ca, rfl⟩ := h.stmid.form
  obtain ⟨q, hq⟩ : ∃ q, L.length = q := ⟨_, rfl⟩
  have hp : (L ++ [y]).length = q + 1 := by simp [hq]
  rw [hp] at h
  have hm := h.stmid
  obtain ⟨c0, _, _, f0, _⟩ := stk_cells h.stblock
  obtain ⟨g, o, rfl⟩ := hm.some (by omega)
  obtain ⟨cy, _⟩ := mid_cells hm (i := q) (by omega)
  rw [show (L ++ [y])[q]?.getD 0 = y by simp [← hq]] at cy
  have hle := hm.le.2
  have hcut := hm.cut (i := q) (by omega)
  rw [show (L ++ [y]).take q = L by rw [← hq, List.take_left]] at hcut
  have h1 := h.unit.stset (Keep.refl _ _) hcut (fun k e => .inl e)
  have HX := hid h1.fst
  have hqb : q ≤ 4096 := by have := HO.out; simp at this; omega
  have hz : ((q + 1 : Nat) : Int) - 1 = (q : Int) := by omega
  have hz1 : ((q : Int) + 1) - 1 = (q : Int) := by omega
  have d0 : ((q + 1 : Nat) : Int) ≠ 0 := by omega
  have d1 : (((q + 1 : Nat) : Int) == 0) = false := by simp; omega
  have d2 : ((q : Int) + 1 == 0) = false := by simp; omega
  have d3 : q < q + 1 := by omega
  have d4 : q ≤ ca := by omega
  have d5 : (q : Int) < ((q + 1 : Nat) : Int) := by omega
  have d6 : (q : Int) < (q : Int) + 1 := by omega
  clear h hm hcut h1 hq hp hle
  go_enter Tryz.func67, Tryz.ntmps67
  go_wp2_with fail
  go_ret2
  exact ⟨rfl, HX.out.stk0 (inR_fst HO.out.1) (by have := HO.out.2.1; simp at this; omega) HO.out.2.2⟩
set_option maxRecDepth 100000 in
set_option maxHeartbeats 1600000 in
theorem stpop_no (w : World) (h : Has w0 F0 (stkA sb n [] ov) w) :
    Calls Tryz.prog 67 #[.pointer (some ⟨sb, 0, none⟩)] w fun e w' => e = .returned (.tuple #[.int .i64 0, .bool false]) ∧ Has w0 F0 (stkA sb n [] ov) w' := by
  obtain ⟨va, h1⟩ := h.straw0
  obtain ⟨la, ca, rfl⟩ := h1.stmid.form
  obtain ⟨c0, _⟩ := stk_cells h1.stblock
  rw [List.length_nil] at c0
  have HX := hid h
  clear h h1
  go_enter Tryz.func67, Tryz.ntmps67
  go_wp2_with fail
  go_ret2
  exact ⟨rfl, HX.out⟩
set_option maxRecDepth 100000 in
theorem stdepth (w : World) (h : Has w0 F0 (stkA sb n L ov) w) :
    Calls Tryz.prog 98 #[.pointer (some ⟨sb, 0, none⟩)] w fun e w' => e = .returned (.int .i64 L.length) ∧ Keep [] w w' := by
  obtain ⟨va, h⟩ := h.straw0
  obtain ⟨la, ca, rfl⟩ := h.stmid.form
  obtain ⟨c0, _⟩ := stk_cells h.stblock
  obtain ⟨q, hq⟩ : ∃ q, L.length = q := ⟨_, rfl⟩
  rw [hq] at c0 ⊢
  clear h hq
  go_enter Tryz.func98, Tryz.ntmps98
  go_wp2_with fail
  go_ret
  exact ⟨rfl, Keep.refl _ _⟩
end
set_option maxRecDepth 100000 in
theorem stpush_nil (xa : Option Addr) (m c : Nat) (w : World) :
    Calls Tryz.prog 97 #[.pointer none, .slice xa m c] w fun e w' => e = .returned (.int .i64 0) ∧ Keep [] w w' := by
  go_enter Tryz.func97, Tryz.ntmps97
  go_wp2_with fail
  go_ret
  exact ⟨rfl, Keep.refl _ _⟩
set_option maxRecDepth 100000 in
theorem stpop_nil (w : World) :
    Calls Tryz.prog 67 #[.pointer none] w fun e w' => e = .returned (.tuple #[.int .i64 0, .bool false]) ∧ Keep [] w w' := by
  go_enter Tryz.func67, Tryz.ntmps67
  go_wp2_with fail
  go_ret2
  exact ⟨rfl, Keep.refl _ _⟩
set_option maxRecDepth 100000 in
theorem stdepth_nil (w : World) :
    Calls Tryz.prog 98 #[.pointer none] w fun e w' => e = .returned (.int .i64 0) ∧ Keep [] w w' := by
  go_enter Tryz.func98, Tryz.ntmps98
  go_wp2_with fail
  go_ret
  exact ⟨rfl, Keep.refl _ _⟩

end Go.Proofs.YtgpidokklhjfdaaGreat

/-
  Package mark in memory: a tracer over its heap; what New, Marked, All and Deep answer and leave; a tracing under way.
-/
namespace Go.Proofs.YtgpidokklhjfdaaGreat
open Go.RowKit

theorem Tryz.infoIntTr : (Tryz.prog.info? 3).map (fun i => (i.zero, i.size, i.bytes)) = some (some (.int .i64 0), 1, 8) := by kernel_rfl
/-- What is marked, by address. -/
def marksL (xs : List Bool) : List Int := ((List.range xs.length).filter (fun i => xs[i]?.getD false)).map Int.ofNat
theorem marksL_to (xs : List Bool) : marksTo xs xs.length = marksL xs := rfl
def bitsA (bb bg : Nat) (xs : List Bool) : Asn where
  at' w F := F = [bb, bg] ∧ IsBits w bb bg xs
  keep := fun h K hS => ⟨h.1, h.2.keep K (hS _ (by rw [h.1]; simp)) (hS _ (by rw [h.1]; simp))⟩
  lt := fun h k hk => by
    rw [h.1] at hk
    have := h.2.lt
    simp at hk
    omega
def trO (bb hb sk : Nat) (d : Int) : Obj := .cells #[.pointer (some ⟨bb, 0, none⟩), .pointer (some ⟨hb, 0, none⟩), .pointer (some ⟨sk, 0, none⟩), .int .i64 d] 38 (0, 0)
def trS (tb hb n bb bg sk : Nat) (d : Int) (xs : List Bool) (L : List Int) (ov : Bool) : Asn := ((blockA tb (trO bb hb sk d)).star (bitsA bb bg xs)).star (stkA sk n L ov)
/-- A tracer over heap hb, with a stack of n places: xs is marked. -/
def trA (tb hb n : Nat) (xs : List Bool) : Asn where
  at' w F := ∃ (bb bg sk : Nat) (d : Int) (ov : Bool), (trS tb hb n bb bg sk d xs [] ov).at' w F ∧ 0 ≤ d ∧ d ≤ n
  keep := fun h K hS => by
    obtain ⟨bb, bg, sk, d, ov, h, e⟩ := h
    exact ⟨bb, bg, sk, d, ov, (trS _ _ _ bb bg sk d _ _ ov).keep h K hS, e⟩
  lt := fun h => by
    obtain ⟨bb, bg, sk, d, ov, h, e⟩ := h
    exact (trS _ _ _ bb bg sk d _ _ ov).lt h
/-- A tracing under way: L is on the stack, ls is left for later. -/
def trX (tb hb n bb bg sk lb lg : Nat) (xs ls : List Bool) (L : List Int) : Asn where
  at' w F := ∃ (d : Int) (ov : Bool), ((trS tb hb n bb bg sk d xs L ov).star (bitsA lb lg ls)).at' w F ∧ 0 ≤ d ∧ d ≤ n
  keep := fun h K hS => by
    obtain ⟨d, ov, h, e⟩ := h
    exact ⟨d, ov, ((trS _ _ _ bb bg sk d _ _ ov).star _).keep h K hS, e⟩
  lt := fun h => by
    obtain ⟨d, ov, h, e⟩ := h
    exact ((trS _ _ _ bb bg sk d _ _ ov).star _).lt h
section
variable {w0 w : World} {F0 : List Nat} {tb hb n bb bg sk lb lg : Nat} {xs ys ls : List Bool} {L : List Int} {ws : List Int} {kd : List PK} {ds : List (Int × List Int)} {d : Int} {ov : Bool} {A B : Asn}
/-- What a part becomes. -/
def Up (w w' : World) (A A' : Asn) : Prop := ∀ F, A.at' w F → Has w F A' w'
theorem Up.l {w' : World} {A A' B : Asn} (g : Up w w' A A') : Up w w' (A.star B) (A'.star B) := fun _ h => Has.left (Has.start h) g
theorem Up.r {w' : World} {A B B' : Asn} (g : Up w w' B B') : Up w w' (A.star B) (A.star B') := fun _ h => (Has.left (Has.start h).comm g).comm
theorem up_bits {w' : World} (hB : IsBits w' bb bg ys) (K : Keep [bg] w w') : Up w w' (bitsA bb bg xs) (bitsA bb bg ys) := fun F h => ⟨F, ⟨h.1, hB⟩, ⟨K.mono (by rw [h.1]; simp), fun _ e => .inl e⟩⟩
theorem up_block {w' : World} {b : Nat} {o o' : Obj} (ho : w'.heap[b]? = some o') (K : Keep [b] w w') : Up w w' (blockA b o) (blockA b o') := fun F h => ⟨F, ⟨h.1, ho⟩, ⟨by rw [h.1]; exact K, fun _ e => .inl e⟩⟩
/-- Its Bits. -/
theorem Has.trb (h : Has w0 F0 (trA tb hb n xs) w) : ∃ bb bg, w.cell? ⟨tb, 0, none⟩ = some (.pointer (some ⟨bb, 0, none⟩)) ∧ IsBits w bb bg xs := by
  obtain ⟨F, ⟨bb, bg, sk, d, ov, ⟨F1, F2, _, ⟨F3, F4, _, h3, h4, _⟩, _, _⟩, _⟩, _⟩ := h
  have h3' : w.heap[tb]? = some (trO bb hb sk d) := h3.2
  unfold trO at h3'
  exact ⟨bb, bg, by simp [World.cell?, h3'], h4.2⟩
theorem Has.opened (h : Has w0 F0 ((A.star (trX tb hb n bb bg sk lb lg xs ls L)).star B) w) : ∃ d ov, Has w0 F0 ((A.star ((trS tb hb n bb bg sk d xs L ov).star (bitsA lb lg ls))).star B) w ∧ 0 ≤ d ∧ d ≤ n := by
  obtain ⟨F, ⟨F1, F2, hF, ⟨F3, F4, hF1, h3, ⟨d, ov, h4, e⟩, hd1⟩, h2, hd⟩, u⟩ := h
  exact ⟨d, ov, ⟨F, ⟨F1, F2, hF, ⟨F3, F4, hF1, h3, h4, hd1⟩, h2, hd⟩, u⟩, e⟩
theorem Has.shut (h : Has w0 F0 ((A.star ((trS tb hb n bb bg sk d xs L ov).star (bitsA lb lg ls))).star B) w) (h0 : 0 ≤ d) (h1 : d ≤ n) : Has w0 F0 ((A.star (trX tb hb n bb bg sk lb lg xs ls L)).star B) w := by
  obtain ⟨F, ⟨F1, F2, hF, ⟨F3, F4, hF1, h3, h4, hd1⟩, h2, hd⟩, u⟩ := h
  exact ⟨F, ⟨F1, F2, hF, ⟨F3, F4, hF1, h3, ⟨d, ov, h4, h0, h1⟩, hd1⟩, h2, hd⟩, u⟩
theorem trO_cells (h : w.heap[tb]? = some (trO bb hb sk d)) : w.cell? ⟨tb, 0, none⟩ = some (.pointer (some ⟨bb, 0, none⟩)) ∧ w.cell? ⟨tb, 1, none⟩ = some (.pointer (some ⟨hb, 0, none⟩)) ∧ w.cell? ⟨tb, 2, none⟩ = some (.pointer (some ⟨sk, 0, none⟩)) ∧ w.cell? ⟨tb, 3, none⟩ = some (.int .i64 d) ∧ w.frozen? ⟨tb, 3, none⟩ = false := by
  unfold trO at h
  exact ⟨by simp [World.cell?, h], by simp [World.cell?, h], by simp [World.cell?, h], by simp [World.cell?, h], by simp [World.frozen?, h]⟩
theorem Has.trblk (h : Has w0 F0 (trS tb hb n bb bg sk d xs L ov) w) : w.heap[tb]? = some (trO bb hb sk d) := h.fst.fst.fact (fun _ h => h.2)
theorem Has.trbits (h : Has w0 F0 (trS tb hb n bb bg sk d xs L ov) w) : IsBits w bb bg xs := h.fst.snd.fact (fun _ h => h.2)
theorem Has.lbits (h : Has w0 F0 (bitsA lb lg ls) w) : IsBits w lb lg ls := h.fact (fun _ h => h.2)
theorem up_trbits {w' : World} (hB : IsBits w' bb bg ys) (K : Keep [bg] w w') : Up w w' (trS tb hb n bb bg sk d xs L ov) (trS tb hb n bb bg sk d ys L ov) := (up_bits hB K).r.l
theorem trO_put (h : w.heap[tb]? = some (trO bb hb sk d)) (d' : Int) : (w.setCell ⟨tb, 3, none⟩ (.int .i64 d')).heap[tb]? = some (trO bb hb sk d') := by
  have e := heap_setCell_same w tb 3 _ _ (.int .i64 d') h
  simpa [trO] using e
theorem up_deep (h : w.heap[tb]? = some (trO bb hb sk d)) (d' : Int) : Up w (w.setCell ⟨tb, 3, none⟩ (.int .i64 d')) (trS tb hb n bb bg sk d xs L ov) (trS tb hb n bb bg sk d' xs L ov) :=
  Up.l (Up.l (up_block (trO_put h d') (Keep.setCell _ _ (by simp))))
theorem Has.join {w' : World} (h : Has w0 F0 A w) (g : Has w [] B w') : Has w0 F0 (A.star B) w' := by
  obtain ⟨F, g1, g2⟩ := g
  exact h.more g2.keep g1 (fun k hk => (g2.grow k hk).elim (fun e => by simp at e) id)
theorem Has.fewH (h : Has w0 F0 (heapA hb ws kd ds) w) : ws.length ≤ 16384 := by
  have h1 := h.fine.len
  have h2 := h.fine.wf.len2
  omega
theorem hasR_on (xs : List Bool) (x : Int) : hasR xs x = onM xs x := by
  unfold hasR onM isPl
  by_cases h0 : 0 ≤ x
  · obtain ⟨k, rfl⟩ := Int.eq_ofNat_of_zero_le h0
    by_cases hk : k < xs.length
    · simp; omega
    · simp [List.getElem?_eq_none (Nat.le_of_not_lt hk)]
  · simp [h0]
theorem nextR_ge (xs : List Bool) (i : Nat) : nextR xs i true = -1 ∨ (i : Int) ≤ nextR xs i true := by
  rcases nextR_spec xs true _ i rfl with ⟨h1, _⟩ | ⟨j, h1, h2, _⟩
  · exact .inl h1
  · exact .inr (by omega)
/-- Where a walk through the marks is: all ahead of j has been seen, y is the next one, or none. -/
def NextAt (xs : List Bool) (j : Nat) (y : Int) : Prop := nextR xs j true = y
theorem NextAt.start (xs : List Bool) : NextAt xs 0 (nextR xs (0 : Int).toNat true) := rfl
theorem NextAt.yes {j k : Nat} (h : NextAt xs j (k : Int)) : j ≤ k ∧ k < xs.length ∧ marksTo xs (k + 1) = marksTo xs j ++ [(k : Int)] := by
  rcases nextR_spec xs true _ j rfl with ⟨h1, _⟩ | ⟨i, h1, h2, h3, h4, h5⟩
  · unfold NextAt at h; omega
  · obtain rfl : i = k := by unfold NextAt at h; omega
    refine ⟨h2, h3, ?_⟩
    rw [marksTo_yes h4, marksTo_gap h2 (fun t e1 e2 => by have := h5 t e1 e2; simpa using this)]
theorem NextAt.no {j : Nat} {y : Int} (h : NextAt xs j y) (hy : ¬ 0 ≤ y) (hj : j ≤ xs.length) : marksTo xs j = marksL xs := by
  rcases nextR_spec xs true _ j rfl with ⟨_, h1⟩ | ⟨i, h1, h2, h3, h4, h5⟩
  · rw [← marksL_to]
    exact (marksTo_gap hj (fun t e1 e2 => by have := h1 t e1 e2; simpa using this)).symm
  · unfold NextAt at h; omega
set_option maxRecDepth 100000 in
theorem twords (w : World) (h : Has w0 F0 (heapA hb ws kd ds) w) :
    Calls Tryz.prog 34 #[.pointer (some ⟨hb, 0, none⟩)] w fun e w' => e = .returned (.int .i64 ws.length) ∧ w = w' := by
  obtain ⟨sb, tb, hr⟩ := h.raw
  have hc := hr.cells
  have c0 := hc.1
  obtain ⟨ab, ag, c2, hA⟩ := hc.2.2.1
  clear hc hr h
  go_enter Tryz.func34, Tryz.ntmps34
  go_wp2_with (first | (go_at_call 64; refine (len_any _ _ _ _ hA).mono ?_; rintro e w' ⟨rfl, rfl⟩))
  go_ret
  exact ⟨rfl, rfl⟩
set_option maxRecDepth 100000 in
set_option maxHeartbeats 1600000 in
theorem tnew_yes (m : Nat) (w : World) (h : Has w0 F0 (heapA hb ws kd ds) w) (h1 : 1 ≤ m) (h2 : m ≤ 4096) :
    Calls Tryz.prog 6 #[.pointer (some ⟨hb, 0, none⟩), .int .i64 m] w fun e w' => ∃ tb, e = .returned (.tuple #[.pointer (some ⟨tb, 0, none⟩), .int .i64 0]) ∧ Has w0 F0 ((heapA hb ws kd ds).star (trA tb hb m (offs ws.length))) w' := by
  have HX := hid h
  have hl := h.fewH
  clear h
  go_enter Tryz.func6, Tryz.ntmps6
  go_wp2_with fail
  refine (stnew_yes m _ h1 h2).mono ?_
  rintro e w1 ⟨sk, rfl, hS⟩
  have HX1 := hid (HX.out.join hS)
  clear hS HX
  go_wp2_with (first | (go_at_call 34; refine (twords _ HX1.out.fst).mono ?_; rintro e w' ⟨rfl, rfl⟩))
  refine (bnew_ok ws.length _ hl).mono ?_
  rintro e w2 ⟨b, g, rfl, hB, hK, hb1, hb2⟩
  have HX2 := hid (HX1.out.more hK (B := bitsA b g (offs ws.length)) (G := [b, g]) ⟨rfl, hB⟩ (fun k hk => by simp at hk; omega))
  clear hB hK hb1 hb2 HX1
  go_wp2_with fail
  go_ret2
  have h5 := (HX2.out.newB (trO b hb sk 0)).assoc.assoc
  refine ⟨_, rfl, h5.map (fun _ g1 => star_mono (fun F g2 => ⟨b, g, sk, 0, false, ?_, by omega, by omega⟩) g1)⟩
  exact star_comm (star_mono (fun _ g3 => star_comm g3) g2)
set_option maxRecDepth 100000 in
theorem tnew_no (x : Int) (w : World) (_ : Has w0 F0 (heapA hb ws kd ds) w) (hx : x < 1 ∨ 4096 < x) :
    Calls Tryz.prog 6 #[.pointer (some ⟨hb, 0, none⟩), .int .i64 x] w fun e w' => e = .returned (.tuple #[.pointer none, .int .i64 1]) ∧ Keep [] w w' := by
  go_enter Tryz.func6, Tryz.ntmps6
  go_wp2_with fail
  refine (stnew_no x _ hx).mono ?_
  rintro e w1 ⟨rfl, hK⟩
  go_wp2_with fail
  go_ret2
  exact ⟨rfl, hK⟩
set_option maxRecDepth 100000 in
theorem tmarked (x : Int) (w : World) (h : Has w0 F0 (trA tb hb n xs) w) :
    Calls Tryz.prog 16 #[.pointer (some ⟨tb, 0, none⟩), .int .i64 x] w fun e w' => e = .returned (.bool (onM xs x)) ∧ Keep [] w w' := by
  obtain ⟨bb, bg, c0, hB⟩ := h.trb
  have hO : hasR xs x = onM xs x := hasR_on xs x
  go_enter Tryz.func16, Tryz.ntmps16
  go_wp2_with (first | (go_at_call 44; refine (bhas_any _ _ x _ _ hB).mono ?_; rw [hO]; rintro e w' ⟨rfl, rfl⟩))
  go_ret
  exact ⟨rfl, Keep.refl _ _⟩
set_option maxRecDepth 100000 in
theorem tdeep (w : World) (h : Has w0 F0 (trA tb hb n xs) w) :
    Calls Tryz.prog 15 #[.pointer (some ⟨tb, 0, none⟩)] w fun e w' => ∃ d : Nat, e = .returned (.int .i64 d) ∧ d ≤ n ∧ Keep [] w w' := by
  obtain ⟨F, ⟨bb, bg, sk, d, ov, h1, h2, h3⟩, _⟩ := h
  obtain ⟨q, rfl⟩ := Int.eq_ofNat_of_zero_le h2
  obtain ⟨_, _, _, c3, _⟩ := trO_cells (Has.trblk (Has.start h1))
  clear h1
  go_enter Tryz.func15, Tryz.ntmps15
  go_wp2_with fail
  go_ret
  exact ⟨q, rfl, by omega, Keep.refl _ _⟩
set_option maxRecDepth 100000 in
set_option maxHeartbeats 1600000 in
theorem tall (w : World) (h : Has w0 F0 (trA tb hb n xs) w) :
    Calls Tryz.prog 13 #[.pointer (some ⟨tb, 0, none⟩)] w fun e w' => ∃ (v : Value) (m : Nat), e = .returned v ∧ w'.ownsRow w.heap.size 3 1 v m (ints (marksL xs)) ∧ Keep [] w w' := by
  obtain ⟨i0, hi, hz0, hz1, hz2⟩ := info_parts Tryz.infoIntTr
  have hI : Hid (Tryz.prog.info? 3 = some i0 ∧ i0.zero = some (.int .i64 0) ∧ i0.size = 1 ∧ i0.bytes = 8) := ⟨hi, hz0, hz1, hz2⟩
  clear hi hz0 hz1 hz2
  obtain ⟨bb, bg, c0, hB⟩ := h.trb
  have hlen := hB.len
  have HB := hid hB
  have HC := (show Hid (∀ w', Keep [] w w' → w'.cell? ⟨tb, 0, none⟩ = some (.pointer (some ⟨bb, 0, none⟩))) from fun w' K => by rw [K.cell (lt_of_cell2' c0) (by simp)]; exact c0)
  clear h hB
  go_enter Tryz.func13, Tryz.ntmps13
  go_wp2_with (first | (go_at_call 38; refine (bnext_any bb bg 0 true xs _ HB.out (by omega)).mono ?_; rintro e w' ⟨rfl, rfl⟩))
  clear c0
  go_loopw [3, 4] (fun v x wr => ∃ (j m : Nat) (y : Int) (v' : Value), v' = v ∧ x = .int .i64 y ∧ j ≤ xs.length ∧ m ≤ j ∧ Hid (NextAt xs j y) ∧ Hid (wr.ownsRow w.heap.size 3 1 v m (ints (marksTo xs j))) ∧ Hid (Keep [] w wr)) (fun _ x _ => xs.length + 1 - (intOf x).toNat - (if 0 ≤ intOf x then 0 else xs.length + 1))
  case atStart => exact ⟨0, 0, _, _, rfl, rfl, by omega, by omega, NextAt.start xs, World.ownsRow_nil _ _ _ _, Keep.refl _ _⟩
  case round =>
    obtain ⟨j, m, y, v', hv', rfl, hj, hm, HN, HO, HK⟩ := hrel
    subst hv'
    by_cases hy : 0 ≤ y
    · obtain ⟨k, rfl⟩ := Int.eq_ofNat_of_zero_le hy
      obtain ⟨hk1, hk2, hN⟩ := HN.out.yes
      have HN1 := hid hN
      have hd : decide (0 ≤ (k : Int)) = true := decide_eq_true (by omega)
      have hK1 := Keep.alloc [] wr (.cells #[.int .i64 (k : Int)] 3)
      have HO1 := hid (own_keep6 HO.out hK1)
      have HK1 := hid (HK.out.trans hK1)
      have HM := hid (IntsAt.one wr 3 (k : Int) (by omega) (by omega))
      have hsz := HK1.out.size
      have hwz : intOf (.int .i64 (k : Int)) = (k : Int) := rfl
      clear hK1 HO HK HN hN hy
      go_wp2_with (first
        | (at_builtin; refine append_ints rfl (.tmp 21) (.tmp 23) 25 rfl w.heap.size 3 i0 Tryz.underlying25 hI.out _ m (marksTo xs j) [(k : Int)] rfl HO1.out (some ⟨wr.heap.size, 0, none⟩) 1 1 rfl rfl HM.out (by simp) (by omega) hsz ?_; intro v' w5 hown5 hgrow; have hK5 := HK1.out.grown hgrow (own_block HO1.out); have HO5 := hid hown5; have HK5 := hid hK5; have c5 := HC.out _ hK5; have HB5 := hid (HB.out.keep hK5 (by simp) (by simp)); rw [← HN1.out] at HO5; clear hown5 hgrow hK5 HO1 HK1 HM)
        | (go_at_call 38; refine (bnext_any bb bg ((k : Int) + 1) true xs _ HB5.out (by omega)).mono ?_; rintro e w' ⟨rfl, rfl⟩))
      go_roundw
      case rel => exact ⟨k + 1, m + 1, _, _, rfl, rfl, by omega, by omega, rfl, HO5.out, HK5⟩
      case measure =>
        have h1 := nextR_bd xs (k + 1) true
        have h2 := nextR_ge xs (k + 1)
        generalize nextR xs (k + 1) true = z at *
        have e : ∀ y : Int, intOf (.int .i64 y) = y := fun _ => rfl
        simp only [e]
        split <;> split <;> omega
    · have hd : decide (0 ≤ y) = false := decide_eq_false hy
      have hN := HN.out.no hy hj
      rw [hN] at HO
      go_wp2_with fail
      go_ret
      exact ⟨_, rfl, ⟨m, HO.out⟩, HK.out⟩
set_option maxRecDepth 100000 in
theorem tnew_nil (x : Int) (w : World) :
    Calls Tryz.prog 6 #[.pointer none, .int .i64 x] w fun e w' => e = .returned (.tuple #[.pointer none, .int .i64 2]) ∧ Keep [] w w' := by
  go_enter Tryz.func6, Tryz.ntmps6
  go_wp2_with fail
  go_ret2
  exact ⟨rfl, Keep.refl _ _⟩
set_option maxRecDepth 100000 in
theorem tmarked_nil (x : Int) (w : World) :
    Calls Tryz.prog 16 #[.pointer none, .int .i64 x] w fun e w' => e = .returned (.bool false) ∧ Keep [] w w' := by
  go_enter Tryz.func16, Tryz.ntmps16
  go_wp2_with fail
  go_ret
  exact ⟨rfl, Keep.refl _ _⟩
set_option maxRecDepth 100000 in
theorem tall_nil (w : World) :
    Calls Tryz.prog 13 #[.pointer none] w fun e w' => e = .returned (.slice none 0 0) ∧ Keep [] w w' := by
  go_enter Tryz.func13, Tryz.ntmps13
  go_wp2_with fail
  go_ret
  exact ⟨rfl, Keep.refl _ _⟩
set_option maxRecDepth 100000 in
theorem tdeep_nil (w : World) :
    Calls Tryz.prog 15 #[.pointer none] w fun e w' => e = .returned (.int .i64 0) ∧ Keep [] w w' := by
  go_enter Tryz.func15, Tryz.ntmps15
  go_wp2_with fail
  go_ret
  exact ⟨rfl, Keep.refl _ _⟩
set_option maxRecDepth 100000 in
theorem tmark_nil (ao : Option Addr) (q c : Nat) (w : World) :
    Calls Tryz.prog 10 #[.pointer none, .slice ao q c] w fun e w' => e = .returned (.tuple #[]) ∧ Keep [] w w' := by
  go_enter Tryz.func10, Tryz.ntmps10
  go_wp2_with fail
  refine bodyPost_ret (results_none rfl _ _ _) rfl ?_
  exact ⟨rfl, Keep.refl _ _⟩
end

end Go.Proofs.YtgpidokklhjfdaaGreat

/-
  What Refs answers is new memory, that may be written to.
-/
namespace Go.Proofs.YtgpidokklhjfdaaGreat
open Go.RowKit

/-- A list of integers in memory that is not elder than base, and that may be written to. -/
def OwnL (w : World) (base : Nat) (la : Option Addr) (L : List Int) : Prop := IntsAt w la L ∧ ∀ a, la = some a → base ≤ a.block ∧ a.block < w.heap.size ∧ ∃ arr t, w.heap[a.block]? = some (.cells arr t (0, 0))
theorem OwnL.nil (w : World) (base : Nat) : OwnL w base none [] := ⟨IntsAt.nil _ _, fun a e => by cases e⟩
theorem OwnL.keep {w w' : World} {base : Nat} {la : Option Addr} {L : List Int} (h : OwnL w base la L) (K : Keep [] w w') : OwnL w' base la L :=
  ⟨h.1.keep K (fun _ a _ => by simp), fun a e => by
    obtain ⟨h1, h2, arr, t, h3⟩ := h.2 a e
    exact ⟨h1, Nat.lt_of_lt_of_le h2 K.size, arr, t, K.blk h3 (by simp)⟩⟩
theorem OwnL.row {w : World} {base z : Nat} {t : TypeId} {L : List Int} (h : Row w t z L) (hz : base ≤ z) (hb : ∀ i : Nat, inI (L[i]?.getD 0)) : OwnL w base (some ⟨z, 0, none⟩) L :=
  ⟨h.ints hb, fun a e => by cases e; exact ⟨hz, h.lt, _, _, h⟩⟩
/-- One of them: where it lies, and that it may be turned. -/
theorem OwnL.at' {w : World} {base : Nat} {la : Option Addr} {L : List Int} (h : OwnL w base la L) (h0 : 0 < L.length) : ∃ z o, la = some ⟨z, o, none⟩ ∧ base ≤ z ∧ z < w.heap.size ∧ (∀ i, i < L.length → w.cell? ⟨z, o + i, none⟩ = some (.int .i64 (L[i]?.getD 0))) ∧ ∀ i, w.frozen? ⟨z, i, none⟩ = false := by
  obtain ⟨z, o, rfl, hz, hc⟩ := h.1.cells h0
  obtain ⟨h1, _, arr, t, h3⟩ := h.2 _ rfl
  exact ⟨z, o, rfl, h1, hz, hc, fun i => by simp [World.frozen?, h3]⟩
theorem OwnL.put {w : World} {base z o i : Nat} {L : List Int} (h : OwnL w base (some ⟨z, o, none⟩) L) (hi : i < L.length) (x : Int) (hx : inI x) : OwnL (w.setCell ⟨z, o + i, none⟩ (.int .i64 x)) base (some ⟨z, o, none⟩) (L.set i x) := by
  obtain ⟨z', o', e, hz, hc⟩ := h.1.cells (by omega)
  cases e
  obtain ⟨h1, h2, arr, t, h3⟩ := h.2 _ rfl
  have hset := heap_setCell_same w z (o + i) arr t (.int .i64 x) h3
  have hbd : ∀ j : Nat, inI ((L.set i x)[j]?.getD 0) := by
    intro j
    by_cases e : i = j
    · subst e; rw [List.getElem?_set_self hi]; exact hx
    · rw [List.getElem?_set_ne e]; exact ⟨h.1.low j, h.1.high j⟩
  refine ⟨⟨fun _ => ⟨z, o, rfl, lt_of_block hset, fun j hj => ?_⟩, fun j => (hbd j).1, fun j => (hbd j).2⟩, fun a e => by cases e; exact ⟨h1, lt_of_block hset, _, _, hset⟩⟩
  rw [List.length_set] at hj
  have hj' := hc j hj
  simp [World.cell?, h3] at hj'
  by_cases e : i = j
  · subst e
    rw [List.getElem?_set_self hi]
    have : o + i < arr.size := by
      rcases Nat.lt_or_ge (o + i) arr.size with g | g
      · exact g
      · rw [Array.getElem?_eq_none g] at hj'; cases hj'
    simp [World.cell?, hset, this]
  · rw [List.getElem?_set_ne e]
    simp only [World.cell?, hset]
    simp [hj', e]

section
variable {w0 w : World} {F0 : List Nat} {hb : Nat} {ws : List Int} {kd : List PK} {ds : List (Int × List Int)}
set_option maxRecDepth 100000 in
set_option maxHeartbeats 3200000 in
theorem orefs_plain_own {sb tb : Nat} (i : Nat) (a c l n : Int) (f : Bool) (L : List Int) (w : World) (h : Has w0 F0 (rawA hb sb tb ws kd ds) w) (hci : c = (i : Int) + 1) (hi : ds[i]? = some (n, L)) (hl : ds.length ≤ 256) (hc : Calls Tryz.prog 46 #[.pointer (some ⟨hb, 0, none⟩), .int .i64 a] w fun e w' => e = .returned (.tuple #[.agg #[.int .i64 1, .int .i64 c, .int .i64 l, .bool f], .int .i64 0]) ∧ Keep [] w w') :
    Calls Tryz.prog 68 #[.pointer (some ⟨hb, 0, none⟩), .int .i64 a] w fun e w' => ∃ la lc, e = .returned (.slice la L.length lc) ∧ OwnL w' w.heap.size la L ∧ Keep [] w w' := by
  have HC := (show Hid (Calls Tryz.prog 46 #[.pointer (some ⟨hb, 0, none⟩), .int .i64 a] w fun e w' => e = .returned (.tuple #[.agg #[.int .i64 1, .int .i64 c, .int .i64 l, .bool f], .int .i64 0]) ∧ Keep [] w w') from hc)
  have HCI := (show Hid (c = (i : Int) + 1) from hci)
  have HX := (show Hid (Has w0 F0 (rawA hb sb tb ws kd ds) w) from h)
  clear hc hci h
  go_enter Tryz.func68, Tryz.ntmps68
  go_upto_region 4 with (first | (go_at_call 46; refine HC.out.mono ?_; rintro e w9 ⟨rfl, hK9⟩; have hx := heap_alloc_new w9 (.cells #[.int .i64 1, .int .i64 c, .int .i64 l, .bool f] 68); obtain ⟨g0, g1, g2, g3⟩ := four_cells hx))
  have hK := hK9.trans (Keep.alloc [] w9 (.cells #[.int .i64 1, .int .i64 c, .int .i64 l, .bool f] 68))
  have h1 := HX.out.keep0 hK
  generalize w9.alloc (.cells #[.int .i64 1, .int .i64 c, .int .i64 l, .bool f] 68) = w1 at *
  have hlx := lt_of_block hx
  have hs9 := hK9.size
  obtain ⟨bx, hbx⟩ : ∃ bx, w9.heap.size = bx := ⟨_, rfl⟩
  rw [hbx] at hx hlx hs9 ⊢
  clear g0 g1 g2 g3 hK9 hbx
  obtain ⟨g0, g1, g2, g3⟩ := four_cells hx
  obtain ⟨c0, c1, _⟩ := h1.cells
  obtain ⟨F, hT⟩ := h1.tab
  have HT := (show Hid (∀ w', Keep [] w1 w' → IsTab w' tb F ds) from fun w' K => hT.keep K (by simp))
  have hKz := (Keep.alloc [] w1 (.cells #[.int .i64 0, .slice none 0 0] 76)).trans (Keep.drew [] _)
  obtain ⟨b0, b1, _⟩ := (h1.keep0 hKz).cells
  obtain ⟨d0, d1, d2, d3⟩ := four_cells (hKz.blk hx (by simp))
  have hn1 := World.new_ne _ _ c1
  have hn2 := World.new_ne _ _ g1
  clear h1 hT
  go_region_law (first | (go_simp; refine (tclass_at tb i F ds n c L _ (HT.out _ (by first | exact Keep.drew [] _ | exact (Keep.alloc [] _ _).trans (Keep.drew [] _))) hi (by omega) HCI.out).mono ?_; rintro e w2 ⟨la, lc, rfl, HG, hK2⟩; have hKe : Keep [] w1 w2 := (by first | exact (Keep.drew [] _).trans hK2 | exact ((Keep.alloc [] _ _).trans (Keep.drew [] _)).trans hK2); obtain ⟨q0, q1, q2, q3⟩ := four_cells (hKe.blk hx (by simp)); have hn3 : w2.heap.size ≠ bx := World.new_ne _ _ q1; have hn4 := hn3.symm; try (have hz := hK2.blk (heap_alloc_new w1 (.cells #[.int .i64 0, .slice none 0 0] 76)) (by simp); obtain ⟨u0, u1⟩ := two_cells hz; obtain ⟨v0, v1⟩ := two_free hz)))
  all_goals first
    | (obtain ⟨hz1, hk4⟩ := two_put hz (.int .i64 n) (.slice la L.length lc)
       have hKf := hK.trans (((hKe.mono (T := [w1.heap.size]) (by simp)).trans hk4).drop (by simp))
       have HI := (show Hid (OwnL ((w2.setCell ⟨w1.heap.size, 0, none⟩ (.int .i64 n)).setCell ⟨w1.heap.size, 1, none⟩ (.slice la L.length lc)) w.heap.size la L) from by
         obtain ⟨_, _, e, h1, h2, h3⟩ := HG
         cases e
         have hsz := hK.size
         refine ⟨h1.keep hk4 (fun _ x e => ?_), fun x e => ?_⟩
         · have := (h3 x e).1; simp at this ⊢; omega
         · obtain ⟨g1, g2, arr, t, g3⟩ := h3 x e
           simp at g1
           exact ⟨by omega, Nat.lt_of_lt_of_le g2 hk4.size, arr, t, hk4.blk g3 (by simp; omega)⟩)
       clear hk4 hz u0 u1 v0 v1 HG
       generalize (w2.setCell ⟨w1.heap.size, 0, none⟩ (.int .i64 n)).setCell ⟨w1.heap.size, 1, none⟩ (.slice la L.length lc) = wz at *)
    | (have hz1 := heap_alloc_new w2 (.cells #[.int .i64 n, .slice la L.length lc] 76)
       have hKf := (hK.trans hKe).trans (Keep.alloc [] w2 (.cells #[.int .i64 n, .slice la L.length lc] 76))
       have HI := (show Hid (OwnL (w2.alloc (.cells #[.int .i64 n, .slice la L.length lc] 76)) w.heap.size la L) from by
         obtain ⟨_, _, e, h1, h2, h3⟩ := HG
         cases e
         have hsz := hK.size
         refine ⟨h1.keep (Keep.alloc [] _ _) (fun _ x e => by simp), fun x e => ?_⟩
         obtain ⟨g1, g2, arr, t, g3⟩ := h3 x e
         simp at g1
         exact ⟨by omega, by simp; omega, arr, t, (Keep.alloc [] _ _).blk g3 (by simp)⟩)
       clear HG
       generalize w2.alloc (.cells #[.int .i64 n, .slice la L.length lc] 76) = wz at *)
  all_goals (obtain ⟨t0, t1⟩ := two_cells hz1; clear hz1 q0 q1 q2 q3 hKe hK2)
  all_goals (go_wp2_with fail)
  all_goals go_ret
  all_goals exact ⟨la, ⟨lc, rfl⟩, HI.out, hKf⟩
theorem orefs_own (a : Int) (L : List Int) (w : World) (h : Has w0 F0 (heapA hb ws kd ds) w) (hT : RefsT kd ws ds a L) :
    Calls Tryz.prog 68 #[.pointer (some ⟨hb, 0, none⟩), .int .i64 a] w fun e w' => ∃ la lc, e = .returned (.slice la L.length lc) ∧ OwnL w' w.heap.size la L ∧ Keep [] w w' := by
  have hf := h.fine
  obtain ⟨sb, tb, hr⟩ := h.raw
  cases hT with
  | none hn =>
    refine (orefs_other _ a _ _ _ _ _ w (by omega) (ohead a _ _ _ _ _ w h (.no hn))).mono ?_
    rintro e w' ⟨rfl, hK⟩
    exact ⟨none, 0, rfl, OwnL.nil _ _, hK⟩
  | data b m c l f hA =>
    refine (orefs_other _ a _ _ _ _ _ w (by omega) (ohead a _ _ _ _ _ w h (.yes b m 3 c l f hA))).mono ?_
    rintro e w' ⟨rfl, hK⟩
    exact ⟨none, 0, rfl, OwnL.nil _ _, hK⟩
  | ref b m c l f hA =>
    refine (orefs_ref _ a _ _ _ _ w (ohead a _ _ _ _ _ w h (.yes b m 4 c l f hA))).mono ?_
    rintro e w' ⟨z, rfl, hR, hz, hK⟩
    exact ⟨_, 1, rfl, OwnL.row hR hz two_bd, hK⟩
  | refs b m c l f hA =>
    have hbd := hA.2.2.bd
    obtain ⟨q, hq⟩ := Int.eq_ofNat_of_zero_le hbd.2.2.2.2.1
    refine (orefs_all _ a _ l _ q _ w hq (by omega) (ohead a _ _ _ _ _ w h (.yes b m 2 c l f hA))).mono ?_
    rintro e w' ⟨z, rfl, hR, hz, hK⟩
    exact ⟨_, q, by rw [upL_length, hq]; rfl, OwnL.row hR hz (upL_bd l (by omega)), hK⟩
  | plain b m i c l f L hA hci hi => exact orefs_plain_own i a c l l f L w hr hci hi hf.few (ohead a _ _ _ _ _ w h (.yes b m 1 c l f hA))
end

end Go.Proofs.YtgpidokklhjfdaaGreat

/-
  Package mark: what turn and leads answer and leave.
-/
namespace Go.Proofs.YtgpidokklhjfdaaGreat
open Go.RowKit

section
variable {w0 w : World} {F0 : List Nat} {tb hb n bb bg sk : Nat} {xs : List Bool} {L : List Int} {ws : List Int} {kd : List PK} {ds : List (Int × List Int)} {d : Int} {ov : Bool}
theorem Keep.setTo {w1 : World} {z o : Nat} {v : Value} (h : Keep [] w w1) (hz : w.heap.size ≤ z) : Keep [] w (w1.setCell ⟨z, o, none⟩ v) :=
  ((h.mono (T := [z]) (by simp)).trans (Keep.setCell _ _ (by simp))).drop (by simp; omega)
theorem stpush_room (xa : Option Addr) (x : Int) (w : World) (h : Has w0 F0 (stkA sk n L ov) w) (hI : IntsAt w xa [x]) (hc : capOk xa 1 1) (hl : L.length < n) :
    Calls Tryz.prog 97 #[.pointer (some ⟨sk, 0, none⟩), .slice xa 1 1] w fun e w' => e = .returned (.int .i64 1) ∧ Has w0 F0 (stkA sk n (L ++ [x]) ov) w' := by
  obtain ⟨h1, h2, h3⟩ := h.stkok
  obtain ⟨va, hr⟩ := h.unit.straw
  refine (stpush_fits xa 1 1 (n - L.length) [x] w hr hI rfl hc h3 (by omega) (by omega)).mono ?_
  rintro e w' ⟨rfl, va', hX⟩
  refine ⟨rfl, (hX.stk (inR_app h1 (fun i => ⟨hI.low i, hI.high i⟩)) ?_ h3).fst⟩
  simp; omega
theorem stpush_full (xa : Option Addr) (x : Int) (w : World) (h : Has w0 F0 (stkA sk n L ov) w) (hI : IntsAt w xa [x]) (hc : capOk xa 1 1) (hl : ¬ L.length < n) :
    Calls Tryz.prog 97 #[.pointer (some ⟨sk, 0, none⟩), .slice xa 1 1] w fun e w' => e = .returned (.int .i64 0) ∧ Has w0 F0 (stkA sk n L true) w' := by
  obtain ⟨h1, h2, h3⟩ := h.stkok
  obtain ⟨va, hr⟩ := h.unit.straw
  refine (stpush_over xa 1 1 0 [x] w hr hI rfl hc h3 (by omega) (by omega)).mono ?_
  rintro e w' ⟨rfl, va', hX⟩
  rw [List.take_zero, List.append_nil] at hX
  exact ⟨rfl, (hX.stk h1 h2 h3).fst⟩
theorem Has.refs_few (h : Has w0 F0 (heapA hb ws kd ds) w) {a : Int} {R : List Int} (hR : RefsT kd ws ds a R) : R.length ≤ 1000000 := by
  obtain ⟨sb, tb, hr⟩ := h.raw
  obtain ⟨F, va, vc, cs, hT, rfl⟩ := hr.tab
  cases hR with
  | none _ => simp
  | data => simp
  | ref => simp
  | refs b m c l f hA =>
    have := hA.2.2.bd
    rw [upL_length]; omega
  | plain b m i c l f L _ _ hi =>
    rw [List.getElem?_map] at hi
    cases e : cs[i]? with
    | none => rw [e] at hi; cases hi
    | some v =>
      rw [e] at hi
      have h3 := (hT.each i v e).2.2.1
      simp [CV.d] at hi
      rw [← hi.2]; exact h3
theorem fieldT_in (hf : Fine ws kd ds) {a i N E : Int} (h : FieldT kd ws a i N E) : inI N := by
  cases h with
  | no _ _ _ => exact inI_0
  | yes p _ _ => exact hf.ob.bd p
theorem isAt_no' {kd : List PK} {ws : List Int} {ds : List (Int × List Int)} (hf : Fine ws kd ds) {x : Int} (h : ¬ isAt kd x = true) : NotAt kd x := by
  rcases at_or hf.ob x with ⟨b, m, k, c, l, f, h1, _⟩ | h1
  · exact absurd (isAt_yes h1) h
  · exact h1
theorem isAt_at {kd : List PK} {ws : List Int} {ds : List (Int × List Int)} (hf : Fine ws kd ds) {x : Int} (h : isAt kd x = true) : ∃ (b m : Nat) (k c l : Int) (f : Bool), x = b ∧ At kd ws b b m k c l f ∧ b < ws.length := by
  rcases at_or hf.ob x with ⟨b, m, k, c, l, f, h1, _⟩ | h1
  · have h2 := h1.facts hf.wf
    have h3 := hf.len
    obtain rfl := h2.1
    exact ⟨b, m, k, c, l, f, rfl, h1, by omega⟩
  · rw [isAt_no h1] at h; cases h
set_option maxRecDepth 100000 in
set_option maxHeartbeats 1600000 in
theorem tturn_no (x : Int) (w : World) (hH : Has w0 F0 (heapA hb ws kd ds) w) (hb' : w.heap[tb]? = some (trO bb hb sk d)) (hB : IsBits w bb bg xs) (hx : isAt kd x = true → onM xs x = true) :
    Calls Tryz.prog 96 #[.pointer (some ⟨tb, 0, none⟩), .int .i64 x] w fun e w' => e = .returned (.bool false) ∧ Keep [] w w' := by
  obtain ⟨c0, c1, _, _, _⟩ := trO_cells hb'
  have hO : hasR xs x = onM xs x := hasR_on xs x
  by_cases hon : onM xs x = true
  · rw [hon] at hO
    go_enter Tryz.func96, Tryz.ntmps96
    go_wp2_with (first | (go_at_call 44; refine (bhas_any _ _ x _ _ hB).mono ?_; rw [hO]; rintro e w' ⟨rfl, rfl⟩))
    go_ret
    exact ⟨rfl, Keep.refl _ _⟩
  · have hon' : onM xs x = false := by simpa using hon
    rw [hon'] at hO
    have HT := hid (HeadT.no (ws := ws) (isAt_no' hH.fine (fun e => hon (hx e))))
    have HH := hid hH
    clear hH hb' hx hon hon'
    go_enter Tryz.func96, Tryz.ntmps96
    go_wp2_with (first | (go_at_call 44; refine (bhas_any _ _ x _ _ hB).mono ?_; rw [hO]; rintro e w' ⟨rfl, rfl⟩))
    refine (ohead x _ _ _ _ _ _ HH.out HT.out).mono ?_
    rintro e w2 ⟨rfl, hK⟩
    go_wp2_with fail
    go_ret
    exact ⟨rfl, hK.trans (Keep.alloc [] _ _)⟩
set_option maxRecDepth 100000 in
set_option maxHeartbeats 1600000 in
theorem tturn_yes (b : Nat) (w : World) (hH : Has w0 F0 (heapA hb ws kd ds) w) (hb' : w.heap[tb]? = some (trO bb hb sk d)) (hB : IsBits w bb bg xs) (hat : isAt kd (b : Int) = true) (hon : onM xs (b : Int) = false) (hl : b < xs.length) :
    Calls Tryz.prog 96 #[.pointer (some ⟨tb, 0, none⟩), .int .i64 b] w fun e w' => e = .returned (.bool true) ∧ IsBits w' bb bg (xs.set b true) ∧ Keep [bg] w w' := by
  obtain ⟨c0, c1, _, _, _⟩ := trO_cells hb'
  have hO : hasR xs (b : Int) = false := (hasR_on xs b).trans hon
  obtain ⟨b', m, k, c, l, f, e, hA, _⟩ := isAt_at hH.fine hat
  obtain rfl : b = b' := by omega
  have HT := hid (HeadT.yes b m k c l f hA)
  have HH := hid hH
  have HB := hid hB
  have HBL := hid hb'
  clear hH hb' hat hon hA e
  go_enter Tryz.func96, Tryz.ntmps96
  go_wp2_with (first | (go_at_call 44; refine (bhas_any _ _ (b : Int) _ _ hB).mono ?_; rw [hO]; rintro e w' ⟨rfl, rfl⟩))
  refine (ohead (b : Int) _ _ _ _ _ _ HH.out HT.out).mono ?_
  rintro e w2 ⟨rfl, hK⟩
  have hK2 := hK.trans (Keep.alloc [] w2 (.cells #[.int .i64 k, .int .i64 c, .int .i64 l, .bool f] 68))
  have HB2 := hid (hB.keep hK2 (by simp) (by simp))
  obtain ⟨d0, _⟩ := trO_cells (hK2.blk HBL.out (by simp))
  have HK2 := hid hK2
  clear hK hK2 hB HB c0 c1 HH
  go_wp2_with (first | (go_at_call 36; refine (bset_one' bb bg b (w2.heap.size + 1) true xs (w2.alloc (.cells #[.int .i64 k, .int .i64 c, .int .i64 l, .bool f] 68)) (by simp) HB2.out hl).mono ?_; rintro e w' ⟨rfl, hB4, hK4⟩))
  go_ret
  exact ⟨rfl, hB4, (HK2.out.mono (by simp)).trans hK4⟩
set_option maxRecDepth 100000 in
set_option maxHeartbeats 3200000 in
theorem tleads (x : Int) (R Z : List Int) (w : World) (hH : Has w0 F0 (heapA hb ws kd ds) w) (hb' : w.heap[tb]? = some (trO bb hb sk d)) (hR : RefsT kd ws ds x R) (hZ : KidsT kd ws R x Z) :
    Calls Tryz.prog 40 #[.pointer (some ⟨tb, 0, none⟩), .int .i64 x] w fun e w' => ∃ la lc, e = .returned (.slice la Z.length lc) ∧ OwnL w' w.heap.size la Z ∧ Keep [] w w' := by
  obtain ⟨c0, c1, _, _, _⟩ := trO_cells hb'
  have HH := hid hH
  have HBL := hid hb'
  have HR := hid hR
  have HZ := hid hZ
  obtain ⟨q, hq⟩ : ∃ q, R.length = q := ⟨_, rfl⟩
  have hq2 : q ≤ 1000000 := by rw [← hq]; exact hH.refs_few hR
  have hqz : Z.length = q := by rw [hZ.1, hq]
  have HQ := (show Hid (R.length = q ∧ Z.length = q) from ⟨hq, hqz⟩)
  rw [hqz]
  clear hH hb' hR hZ hq hqz
  go_enter Tryz.func40, Tryz.ntmps40
  go_wp2_with fail
  refine (orefs_own x R _ HH.out HR.out).mono ?_
  rintro e w1 ⟨la, lc, rfl, hO, hK⟩
  rw [HQ.out.1]
  have HO := hid hO
  have HK := hid hK
  clear hO hK c0 c1
  go_wp2_with fail
  go_loopw [16] (fun v wr => ∃ (j : Nat) (L : List Int), v = .int .i64 j ∧ j ≤ q ∧ Hid (L.length = q) ∧ Hid (∀ t, t < j → L[t]?.getD 0 = Z[t]?.getD 0) ∧ Hid (∀ t, j ≤ t → L[t]?.getD 0 = R[t]?.getD 0) ∧ Hid (OwnL wr w.heap.size la L) ∧ Hid (Keep [] w wr)) (fun v _ => q - (intOf v).toNat)
  case atStart => exact ⟨0, R, rfl, by omega, HQ.out.1, fun t ht => by omega, fun t _ => rfl, HO.out, HK.out⟩
  case round =>
    obtain ⟨j, L, rfl, hj, HL, H1, H2, HO1, HK1⟩ := hrel
    clear HO HK
    by_cases hlt : j < q
    · have hd : decide ((j : Int) < (q : Int)) = true := decide_eq_true (by omega)
      obtain ⟨z, o, rfl, hz, hzl, hcl, hfr⟩ := HO1.out.at' (by rw [HL.out]; omega)
      have cz := hcl j (by rw [HL.out]; omega)
      rw [H2.out j (Nat.le_refl _)] at cz
      obtain ⟨E, hE⟩ := HZ.out.2 j (by rw [HQ.out.1]; omega)
      obtain ⟨N, hN⟩ : ∃ N, Z[j]?.getD 0 = N := ⟨_, rfl⟩
      obtain ⟨i, hi⟩ : ∃ i, R[j]?.getD 0 = i := ⟨_, rfl⟩
      rw [hi] at cz hE
      rw [hN] at hE
      have HE := hid hE
      have HN := hid hN
      have HHr := hid (HH.out.keep0 HK1.out)
      obtain ⟨_, c1, _⟩ := trO_cells (HK1.out.blk HBL.out (by simp))
      have hNI := fieldT_in HHr.out.fine hE
      have HNI := hid hNI
      have hjl : j < lc ∨ True := .inr trivial
      clear hcl hfr hE hN hi hNI hjl
      go_wp2_with (first | (go_at_call 69; refine (ofield x i N E _ HHr.out HE.out).mono ?_; rintro e w4 ⟨rfl, hK4⟩; have HO4 := hid (HO1.out.keep hK4); obtain ⟨z', o', e', _, _, hc4, f4⟩ := HO4.out.at' (by rw [HL.out]; omega); cases e'; have cz4 := hc4 j (by rw [HL.out]; omega); have fz4 := f4 (o + j); have HP4 := hid (HO4.out.put (i := j) (by rw [HL.out]; omega) N HNI.out); have HK4 := hid (HK1.out.trans hK4); clear hc4 f4 hK4))
      go_roundw
      case rel =>
        refine ⟨j + 1, L.set j N, by go_num, by omega, (by show _ = _; rw [List.length_set]; exact HL.out), fun t ht => ?_, fun t ht => ?_, HP4.out, HK4.out.setTo hz⟩
        · by_cases e : j = t
          · subst e; rw [List.getElem?_set_self (by rw [HL.out]; omega), HN.out]; rfl
          · rw [List.getElem?_set_ne e]; exact H1.out t (by omega)
        · rw [List.getElem?_set_ne (by omega)]; exact H2.out t (by omega)
      case measure => simp [intOf]; omega
    · obtain rfl : j = q := by omega
      have hd : decide ((j : Int) < (j : Int)) = false := decide_eq_false (by omega)
      have hLZ : L = Z := eq_of_getD (by rw [HL.out, HQ.out.2]) (fun t => by
        by_cases ht : t < j
        · exact H1.out t ht
        · rw [List.getElem?_eq_none (by rw [HL.out]; omega), List.getElem?_eq_none (by rw [HQ.out.2]; omega)])
      subst hLZ
      go_wp2_with fail
      go_ret
      exact ⟨la, ⟨lc, rfl⟩, HO1.out, HK1.out⟩
end

end Go.Proofs.YtgpidokklhjfdaaGreat

/-
  Package mark: what push answers and leaves.
-/
namespace Go.Proofs.YtgpidokklhjfdaaGreat
open Go.RowKit

theorem drop_head (M : List Int) {j : Nat} (h : j < M.length) : M.drop j = M[j]?.getD 0 :: M.drop (j + 1) := by
  rw [List.drop_eq_getElem_cons h, List.getElem?_eq_getElem h]; rfl
section
variable {w0 w : World} {F0 : List Nat} {tb hb n bb bg sk lb lg : Nat} {xs0 xs ls : List Bool} {L M0 : List Int} {ws : List Int} {kd : List PK} {ds : List (Int × List Int)} {d : Int} {ov : Bool}
set_option maxRecDepth 100000 in
set_option maxHeartbeats 6400000 in
theorem tpush {B : Asn} (ao : Option Addr) (q c : Nat) (M : List Int) (w : World) (h : Has w0 F0 (((heapA hb ws kd ds).star (trX tb hb n bb bg sk lb lg xs ls L)).star B) w) (hM : ∀ A w', Has w0 F0 (Asn.star A B) w' → IntsAt w' ao M) (hq : M.length = q) (hq2 : q ≤ 1000000) (hl : xs0.length = ws.length) (hT : TR kd ws ds xs0 M0 xs ls L M) :
    Calls Tryz.prog 66 #[.pointer (some ⟨tb, 0, none⟩), .pointer (some ⟨lb, 0, none⟩), .slice ao q c] w fun e w' => ∃ xs' ls' L', e = .returned (.tuple #[]) ∧ Has w0 F0 (((heapA hb ws kd ds).star (trX tb hb n bb bg sk lb lg xs' ls' L')).star B) w' ∧ TR kd ws ds xs0 M0 xs' ls' L' [] ∧ muT xs' ls' L' ≤ muT xs ls L := by
  have HX0 := hid h
  have HM := hid hM
  have HT0 := hid hT
  have HQ := (show Hid (M.length = q ∧ xs0.length = ws.length) from ⟨hq, hl⟩)
  clear h hM hT hq hl
  go_enter Tryz.func66, Tryz.ntmps66
  go_wp2_with fail
  go_loopw [10] (fun v wr => ∃ (j : Nat) (xs1 ls1 : List Bool) (L1 : List Int), v = .int .i64 j ∧ j ≤ q ∧ Hid (Has w0 F0 (((heapA hb ws kd ds).star (trX tb hb n bb bg sk lb lg xs1 ls1 L1)).star B) wr) ∧ Hid (TR kd ws ds xs0 M0 xs1 ls1 L1 (M.drop j)) ∧ Hid (muT xs1 ls1 L1 ≤ muT xs ls L)) (fun v _ => q - (intOf v).toNat)
  case atStart => exact ⟨0, xs, ls, L, rfl, by omega, HX0.out, HT0.out, Nat.le_refl _⟩
  case round =>
    obtain ⟨j, xs1, ls1, L1, rfl, hj, HX, HT, HU⟩ := hrel
    clear HX0 HT0
    by_cases hlt : j < q
    · have hd : decide ((j : Int) < (q : Int)) = true := decide_eq_true (by omega)
      obtain ⟨mb, off, rfl, _, hc⟩ := (HM.out _ _ HX.out).cells (by rw [HQ.out.1]; omega)
      have cm := hc j (by rw [HQ.out.1]; omega)
      have hMI := (HM.out _ _ HX.out)
      have hyl := hMI.low j
      have hyh := hMI.high j
      have hT := HT.out
      rw [drop_head M (by rw [HQ.out.1]; omega)] at hT
      clear hc hMI HT
      generalize M[j]?.getD 0 = y at *
      obtain ⟨d, ov, hX, hd0, hd1⟩ := HX.out.opened
      by_cases hy : isAt kd y = true ∧ onM xs1 y = false
      · obtain ⟨hat, hon⟩ := hy
        obtain ⟨b, _, _, _, _, _, rfl, _, hbl⟩ := isAt_at hX.fst.fst.fine hat
        have hbx : b < xs1.length := by rw [hT.len, HQ.out.2]; exact hbl
        have hbs : b ≤ 20000 := by have := hX.fst.fst.fewH; omega
        have HF := (show Hid (isAt kd (b : Int) = true ∧ onM xs1 (b : Int) = false ∧ b < xs1.length ∧ b < ls1.length ∧ 0 ≤ d ∧ d ≤ n) from ⟨hat, hon, hbx, by rw [hT.len2, HQ.out.2]; exact hbl, hd0, hd1⟩)
        have HT := hid hT
        have HY := hid hX
        clear hat hon hbx hbl hT hX HX hd0 hd1
        go_wp2_with fail
        refine (tturn_yes b _ HY.out.fst.fst HY.out.fst.snd.fst.trblk HY.out.fst.snd.fst.trbits HF.out.1 HF.out.2.1 HF.out.2.2.1).mono ?_
        rintro e w2 ⟨rfl, hB2, hK2⟩
        have HY2 := hid (HY.out.then (Up.l (Up.r (Up.l (up_trbits hB2 hK2)))))
        have hK3 := Keep.alloc [] w2 (.cells #[.int .i64 (b : Int)] 3)
        have HY3 := hid (HY2.out.keep0 hK3)
        have HI3 := hid (IntsAt.one w2 3 (b : Int) (by omega) (by omega))
        obtain ⟨_, _, c2, _⟩ := trO_cells HY2.out.fst.snd.fst.trblk
        obtain ⟨_, _, c2', _⟩ := trO_cells HY3.out.fst.snd.fst.trblk
        clear hB2 hK2 HY hK3
        by_cases hr : L1.length < n
        · go_wp2_with fail
          refine (has_left HY3.out (fun F hF => has_right hF (fun F hF => has_left hF (fun F hF => has_right hF (fun F hF => stpush_room _ _ _ hF HI3.out (cap_lit _ 1 (by omega)) hr))))).mono ?_
          rintro e w4 ⟨rfl, hX4⟩
          have HX4 := (show Hid (Has w0 F0 (((heapA hb ws kd ds).star (trX tb hb n bb bg sk lb lg (xs1.set b true) ls1 (L1 ++ [(b : Int)]))).star B) w4) from Has.shut (d := d) (ov := ov) hX4 HF.out.2.2.2.2.1 HF.out.2.2.2.2.2)
          clear hX4 HY3 HY2 c2 c2'
          go_wp2_with fail
          go_roundw
          case rel => exact ⟨j + 1, _, _, _, by go_num, by omega, HX4, HT.out.put HF.out.1 HF.out.2.2.1, (by have := muT_put (ls := ls1) (L := L1) HF.out.2.2.1 HF.out.2.1 (b : Int); have := HU.out; show _ ≤ _; omega)⟩
          case measure => simp [intOf]; omega
        · go_wp2_with fail
          refine (has_left HY3.out (fun F hF => has_right hF (fun F hF => has_left hF (fun F hF => has_right hF (fun F hF => stpush_full _ _ _ hF HI3.out (cap_lit _ 1 (by omega)) hr))))).mono ?_
          rintro e w4 ⟨rfl, hX4⟩
          have HX4 := (show Hid (Has w0 F0 (((heapA hb ws kd ds).star ((trS tb hb n bb bg sk d (xs1.set b true) L1 true).star (bitsA lb lg ls1))).star B) w4) from hX4)
          clear hX4 HY3 HY2 c2 c2'
          go_wp2_with fail
          refine (bset_one lb lg b true ls1 w4 HX4.out.fst.snd.snd.lbits HF.out.2.2.2.1).mono ?_
          rintro e w5 ⟨rfl, hB5, hK5⟩
          have HX5 := (show Hid (Has w0 F0 (((heapA hb ws kd ds).star (trX tb hb n bb bg sk lb lg (xs1.set b true) (ls1.set b true) L1)).star B) w5) from Has.shut (d := d) (ov := true) (HX4.out.then (Up.l (Up.r (Up.r (up_bits hB5 hK5))))) HF.out.2.2.2.2.1 HF.out.2.2.2.2.2)
          clear hB5 hK5 HX4
          go_wp2_with fail
          go_roundw
          case rel => exact ⟨j + 1, _, _, _, by go_num, by omega, HX5, HT.out.over HF.out.1 HF.out.2.2.1, (by have := muT_over (L := L1) HF.out.2.2.1 HF.out.2.2.2.1 HF.out.2.1; have := HU.out; show _ ≤ _; omega)⟩
          case measure => simp [intOf]; omega
      · have hx : isAt kd y = true → onM xs1 y = true := fun e => by
          cases e' : onM xs1 y with
          | true => rfl
          | false => exact absurd ⟨e, e'⟩ hy
        have HTN := hid (hT.skip hx)
        have HXX := hid hx
        have HY := hid hX
        clear hT hX hy hx hd0 hd1
        go_wp2_with fail
        refine (tturn_no y _ HY.out.fst.fst HY.out.fst.snd.fst.trblk HY.out.fst.snd.fst.trbits HXX.out).mono ?_
        rintro e w2 ⟨rfl, hK2⟩
        have HX2 := hid (HX.out.keep0 hK2)
        clear HY HX hK2
        go_wp2_with fail
        go_roundw
        case rel => exact ⟨j + 1, _, _, _, by go_num, by omega, HX2, HTN, HU⟩
        case measure => simp [intOf]; omega
    · have hd : decide ((j : Int) < (q : Int)) = false := decide_eq_false (by omega)
      have HT1 := (show Hid (TR kd ws ds xs0 M0 xs1 ls1 L1 []) from by
        have h := HT.out
        rw [List.drop_eq_nil_of_le (by rw [HQ.out.1]; omega)] at h
        exact h)
      obtain ⟨d, ov, hX, hd0, hd1⟩ := HX.out.opened
      obtain ⟨_, _, c2, c3, f3⟩ := trO_cells hX.fst.snd.fst.trblk
      obtain ⟨dn, rfl⟩ := Int.eq_ofNat_of_zero_le hd0
      have hst := hX.fst.snd.fst.snd.stkok
      have hL1 := hst.2.1
      have hn1 := hst.2.2
      have HY := hid hX
      have HS := (show Hid (∀ w', Keep [] wr w' → Has w0 F0 (stkA sk n L1 ov) w') from fun w' K => HY.out.fst.snd.fst.snd.keep0 K)
      have HC := (show Hid (∀ w', Keep [] wr w' → w'.heap[tb]? = some (trO bb hb sk dn)) from fun w' K => K.blk HY.out.fst.snd.fst.trblk (by simp))
      clear hX hst HT HX
      go_wp2_with fail
      go_region_law (go_simp; refine (stdepth _ (HS.out _ (Keep.drew [] _))).mono ?_; rintro e w' ⟨rfl, hK⟩; have hK1 := (Keep.drew [] _).trans hK; obtain ⟨_, _, d2, d3, g3⟩ := trO_cells (HC.out _ hK1))
      all_goals (go_wp2_with fail)
      all_goals go_end0
      all_goals
        have h9 := fun d' => (HY.out.keep0 hK1).then (Up.l (Up.r (Up.l (up_deep (HC.out _ hK1) d'))))
        exact ⟨rfl, _, _, _, Has.shut (h9 _) (by omega) (by omega), HT1.out, HU.out⟩
end

end Go.Proofs.YtgpidokklhjfdaaGreat

/-
  Package mark: what reach answers and leaves; how much is left to do, told by the world alone.
-/
namespace Go.Proofs.YtgpidokklhjfdaaGreat
open Go.RowKit

/-- How many of a row are so. -/
def trueN (w : World) (g : Nat) : Nat := match w.heap[g]? with
  | some (.cells cur _ _) => cur.toList.countP (fun v => match v with | .bool b => b | _ => false)
  | _ => 0
/-- How long a list is that stands first in a block. -/
def lenN (w : World) (b : Nat) : Nat := match w.cell? ⟨b, 0, none⟩ with
  | some (.slice _ n _) => n
  | _ => 0
def okN : Value → Nat
  | .bool true => 1
  | _ => 0
theorem trueN_row {w : World} {t : TypeId} {g : Nat} {xs : List Bool} (h : BRow w t g xs) : trueN w g = cntA xs := by
  unfold BRow at h
  unfold trueN
  rw [h]
  show (bools xs).countP _ = _
  unfold cntA cnt bools
  rw [List.take_of_length_le (Nat.le_refl _), List.countP_map]
  rfl
def muW (N bg lg sk : Nat) (w : World) : Nat := 2 * (N - trueN w bg) + trueN w lg + lenN w sk
section
variable {w0 w : World} {F0 : List Nat} {tb hb n bb bg sk lb lg : Nat} {xs0 xs ls : List Bool} {L M0 : List Int} {ws : List Int} {kd : List PK} {ds : List (Int × List Int)} {d : Int} {ov : Bool}
theorem Has.stlen (h : Has w0 F0 (stkA sk n L ov) w) : lenN w sk = L.length := by
  obtain ⟨va, hr⟩ := h.straw0
  obtain ⟨la, ca, rfl⟩ := hr.stmid.form
  obtain ⟨c0, _⟩ := stk_cells hr.stblock
  unfold lenN
  rw [c0]
theorem Has.mu {A B : Asn} (h : Has w0 F0 ((A.star (trX tb hb n bb bg sk lb lg xs ls L)).star B) w) : muW xs.length bg lg sk w = muT xs ls L := by
  obtain ⟨d, ov, hX, _⟩ := h.opened
  unfold muW muT
  rw [trueN_row hX.fst.snd.fst.trbits.row, trueN_row hX.fst.snd.snd.lbits.row, hX.fst.snd.fst.snd.stlen]
theorem Has.trcells {A B : Asn} (h : Has w0 F0 ((A.star (trX tb hb n bb bg sk lb lg xs ls L)).star B) w) : ∃ d, w.heap[tb]? = some (trO bb hb sk d) := by
  obtain ⟨d, ov, hX, _⟩ := h.opened
  exact ⟨d, hX.fst.snd.fst.trblk⟩
theorem Has.lrow {A B : Asn} (h : Has w0 F0 ((A.star (trX tb hb n bb bg sk lb lg xs ls L)).star B) w) : IsBits w lb lg ls := by
  obtain ⟨d, ov, hX, _⟩ := h.opened
  exact hX.fst.snd.snd.lbits
theorem tpop {A B : Asn} (w : World) (h : Has w0 F0 ((A.star (trX tb hb n bb bg sk lb lg xs ls L)).star B) w) :
    Calls Tryz.prog 67 #[.pointer (some ⟨sk, 0, none⟩)] w fun e w' => ∃ (x : Int) (ok : Bool) (L' : List Int), e = .returned (.tuple #[.int .i64 x, .bool ok]) ∧ Has w0 F0 ((A.star (trX tb hb n bb bg sk lb lg xs ls L')).star B) w' ∧ ((ok = true ∧ L = L' ++ [x]) ∨ (ok = false ∧ L = [] ∧ L' = [])) := by
  obtain ⟨d, ov, hX, h0, h1⟩ := h.opened
  rcases List.eq_nil_or_concat L with rfl | ⟨L', x, rfl⟩
  · refine (has_left hX (fun F hF => has_right hF (fun F hF => has_left hF (fun F hF => has_right hF (fun F hF => stpop_no _ hF))))).mono ?_
    rintro e w' ⟨rfl, hX'⟩
    exact ⟨0, false, [], rfl, Has.shut (d := d) (ov := ov) hX' h0 h1, .inr ⟨rfl, rfl, rfl⟩⟩
  · rw [List.concat_eq_append] at hX
    refine (has_left hX (fun F hF => has_right hF (fun F hF => has_left hF (fun F hF => has_right hF (fun F hF => stpop_yes x _ hF))))).mono ?_
    rintro e w' ⟨rfl, hX'⟩
    exact ⟨x, true, L', rfl, Has.shut (d := d) (ov := ov) hX' h0 h1, .inl ⟨rfl, by simp⟩⟩
theorem Has.ownL {w' : World} {A : Asn} {la : Option Addr} {Z : List Int} (h : Has w0 F0 A w) (K : Keep [] w w') (hO : OwnL w' w.heap.size la Z) : Has w0 F0 (A.star (listA la Z)) w' :=
  h.more K (G := la.toList.map (·.block)) ⟨rfl, hO.1, fun a e => (hO.2 a e).2.1⟩ (fun k hk => by
    simp at hk
    obtain ⟨a, e, rfl⟩ := hk
    exact (hO.2 a e).1)
/-- What a round of reach stands at: x was popped, or nothing was there. -/
structure AtR (kd : List PK) (ws : List Int) (ds : List (Int × List Int)) (xs0 : List Bool) (M0 : List Int) (mu : Nat) (x : Int) (ok : Bool) (xs ls : List Bool) (L : List Int) : Prop where
  yes : ok = true → TR kd ws ds xs0 M0 xs ls (L ++ [x]) [] ∧ muT xs ls L + 1 ≤ mu
  no : ok = false → L = [] ∧ TR kd ws ds xs0 M0 xs ls [] [] ∧ muT xs ls [] ≤ mu
  len : xs.length = xs0.length
theorem AtR.of {mu : Nat} {x : Int} {ok : Bool} {L' : List Int} (h : TR kd ws ds xs0 M0 xs ls L []) (hm : muT xs ls L ≤ mu) (g : (ok = true ∧ L = L' ++ [x]) ∨ (ok = false ∧ L = [] ∧ L' = [])) : AtR kd ws ds xs0 M0 mu x ok xs ls L' := by
  rcases g with ⟨rfl, rfl⟩ | ⟨rfl, rfl, rfl⟩
  · exact ⟨fun _ => ⟨h, by rw [muT_pop x]; exact hm⟩, fun e => (by cases e), h.len⟩
  · exact ⟨fun e => (by cases e), fun _ => ⟨rfl, h, hm⟩, h.len⟩
set_option maxRecDepth 100000 in
set_option maxHeartbeats 6400000 in
theorem treach {B : Asn} (ao : Option Addr) (q c : Nat) (M : List Int) (w : World) (h : Has w0 F0 (((heapA hb ws kd ds).star (trX tb hb n bb bg sk lb lg xs ls L)).star B) w) (hM : ∀ A w', Has w0 F0 (Asn.star A B) w' → IntsAt w' ao M) (hq : M.length = q) (hq2 : q ≤ 1000000) (hx : MOk kd ws ds xs0) (hT : TR kd ws ds xs0 M0 xs ls L M) :
    Calls Tryz.prog 37 #[.pointer (some ⟨tb, 0, none⟩), .pointer (some ⟨lb, 0, none⟩), .slice ao q c] w fun e w' => ∃ xs' ls', e = .returned (.tuple #[]) ∧ Has w0 F0 (((heapA hb ws kd ds).star (trX tb hb n bb bg sk lb lg xs' ls' [])).star B) w' ∧ TR kd ws ds xs0 M0 xs' ls' [] [] ∧ muT xs' ls' [] ≤ muT xs ls L := by
  have HX0 := hid h
  have HM := hid hM
  have HT0 := hid hT
  have HO := hid hx
  have HQ := (show Hid (M.length = q) from hq)
  have hN := hT.len
  obtain ⟨mu, hmu⟩ : ∃ mu, muT xs ls L = mu := ⟨_, rfl⟩
  have HMU := hid hmu
  rw [hmu]
  clear h hM hT hq hx hmu
  go_enter Tryz.func37, Tryz.ntmps37
  go_wp2_with fail
  refine (tpush ao q c M _ HX0.out HM.out HQ.out hq2 HO.out.len HT0.out).mono ?_
  rintro e w1 ⟨xs1, ls1, L1, rfl, hX1, hT1, hm1⟩
  rw [HMU.out] at hm1
  have HX1 := hid hX1
  have HT1 := (show Hid (TR kd ws ds xs0 M0 xs1 ls1 L1 [] ∧ muT xs1 ls1 L1 ≤ mu) from ⟨hT1, hm1⟩)
  obtain ⟨d1, hc1⟩ := hX1.trcells
  obtain ⟨_, _, c2, _⟩ := trO_cells hc1
  clear hX1 hT1 hm1 hc1 HX0 HT0 HM
  go_wp2_with fail
  refine (tpop _ HX1.out).mono ?_
  rintro e w2 ⟨x2, ok2, L2, rfl, hX2, hg2⟩
  have HX2 := hid hX2
  have HA2 := hid (AtR.of HT1.out.1 HT1.out.2 hg2)
  clear hX2 hg2 HX1 HT1 c2
  go_wp2_with fail
  go_loopw [6, 7] (fun v6 v7 wr => ∃ (x : Int) (ok : Bool) (ys zs : List Bool) (K : List Int), v6 = .int .i64 x ∧ v7 = .bool ok ∧ Hid (Has w0 F0 (((heapA hb ws kd ds).star (trX tb hb n bb bg sk lb lg ys zs K)).star B) wr) ∧ Hid (AtR kd ws ds xs0 M0 mu x ok ys zs K)) (fun _ v7 wr => muW xs0.length bg lg sk wr + okN v7)
  case atStart => exact ⟨x2, ok2, xs1, ls1, L2, rfl, rfl, HX2.out, HA2.out⟩
  case round =>
    obtain ⟨x, ok, ys, zs, K, rfl, rfl, HX, HA⟩ := hrel
    clear HX2 HA2
    have hmr := HX.out.mu
    rw [HA.out.len] at hmr
    have HMR := hid hmr
    clear hmr
    cases ok with
    | true =>
      obtain ⟨hT, hm⟩ := HA.out.yes rfl
      obtain ⟨R, hR⟩ := refsT_ex HX.out.fst.fst.fine.ob x
      obtain ⟨Z, hZ⟩ := kids_ex HX.out.fst.fst.fine R x
      have hf := HX.out.fst.fst.refs_few hR
      have HZ := (show Hid (RefsT kd ws ds x R ∧ KidsT kd ws R x Z ∧ Z.length ≤ 1000000) from ⟨hR, hZ, by rw [hZ.1]; exact hf⟩)
      have HT := (show Hid (TR kd ws ds xs0 M0 ys zs K Z) from hT.kids HO.out hR hZ)
      have HMM := hid hm
      obtain ⟨dr, hcr⟩ := HX.out.trcells
      have HCR := hid hcr
      clear hT hm hR hZ hf hcr HA
      go_wp2_with fail
      refine (tleads x R Z _ HX.out.fst.fst HCR.out HZ.out.1 HZ.out.2.1).mono ?_
      rintro e w3 ⟨la, lc, rfl, hO3, hK3⟩
      have HX3 := hid (HX.out.ownL hK3 hO3).assoc
      clear hO3 hK3 HX HCR
      obtain ⟨qz, hqz⟩ : ∃ qz, Z.length = qz := ⟨_, rfl⟩
      have HQZ := (show Hid (Z.length = qz) from hqz)
      rw [hqz]
      clear hqz
      go_wp2_with fail
      refine (tpush la qz lc Z _ HX3.out (fun A w' h => h.snd.snd.list) HQZ.out (by rw [← HQZ.out]; exact HZ.out.2.2) HO.out.len HT.out).mono ?_
      rintro e w4 ⟨xs4, ls4, L4, rfl, hX4, hT4, hm4⟩
      have HX4 := hid hX4.assoc'.fst
      have HT4 := (show Hid (TR kd ws ds xs0 M0 xs4 ls4 L4 [] ∧ muT xs4 ls4 L4 ≤ muT ys zs K) from ⟨hT4, hm4⟩)
      obtain ⟨d4, hc4⟩ := HX4.out.trcells
      obtain ⟨_, _, c2, _⟩ := trO_cells hc4
      clear hX4 hT4 hm4 hc4 HX3 HT HZ HQZ
      go_wp2_with fail
      refine (tpop _ HX4.out).mono ?_
      rintro e w5 ⟨x5, ok5, L5, rfl, hX5, hg5⟩
      have HA5 := hid (AtR.of (mu := mu) HT4.out.1 (by have h1 := HT4.out.2; have h2 := HMM.out; omega) hg5)
      have hm5 := hX5.mu
      rw [HA5.out.len] at hm5
      have HX5 := hid hX5
      have HM5 := (show Hid (muW xs0.length bg lg sk w5 + okN (.bool ok5) ≤ muT ys zs K) from by
        show _ ≤ _
        have h1 := HT4.out.2
        rw [hm5]
        rcases hg5 with ⟨rfl, rfl⟩ | ⟨rfl, rfl, rfl⟩
        · have h2 := muT_pop (xs := xs4) (ls := ls4) (L := L5) x5
          simp only [okN]
          omega
        · simp only [okN]
          omega)
      clear hX5 hg5 hm5 HX4 HT4 c2
      go_wp2_with fail
      go_roundw
      case rel => exact ⟨x5, ok5, _, _, _, rfl, rfl, HX5, HA5⟩
      case measure =>
        have h1 := HM5.out
        have h2 := HMR.out
        simp only [okN] at h1 ⊢
        omega
    | false =>
      obtain ⟨rfl, hT, hm⟩ := HA.out.no rfl
      have HE := (show Hid (TR kd ws ds xs0 M0 ys zs [] [] ∧ muT ys zs [] ≤ mu) from ⟨hT, hm⟩)
      clear hT hm HA
      go_wp2_with fail
      go_end0
      exact ⟨_, _, rfl, HX.out, HE.out⟩
end

end Go.Proofs.YtgpidokklhjfdaaGreat

/-
  Package mark: what Mark answers and leaves; marks as a list.
-/
namespace Go.Proofs.YtgpidokklhjfdaaGreat
open Go.RowKit

/-! ### marks, as a list -/
theorem marksL_in (xs : List Bool) (hl : xs.length ≤ 16384) : inR (marksL xs) := by
  intro i
  by_cases hi : i < (marksL xs).length
  · rw [List.getElem?_eq_getElem hi]
    have hm := List.getElem_mem hi
    unfold marksL at hm
    rw [List.mem_map] at hm
    obtain ⟨a, ha, e⟩ := hm
    rw [List.mem_filter, List.mem_range] at ha
    unfold marksL
    simp only [Option.getD_some]
    rw [← e]
    simp only [Int.ofNat_eq_natCast]
    omega
  · rw [List.getElem?_eq_none (by omega)]; simp
theorem marks_cnt (xs : List Bool) (j : Nat) (hj : j ≤ xs.length) : ((List.range j).filter (fun i => xs[i]?.getD false)).length = cnt xs j := by
  induction j with
  | zero => simp [cnt_zero]
  | succ j ih =>
    rw [List.range_succ, List.filter_append, List.length_append, ih (by omega), cnt_step xs j (by omega)]
    cases h : xs[j]?.getD false <;> simp [h]
theorem marksL_count (xs : List Bool) : (marksL xs).length = cntA xs := by
  unfold marksL cntA
  rw [List.length_map, marks_cnt xs _ (Nat.le_refl _)]
theorem MarkT.nil {kd : List PK} {ws : List Int} {ds : List (Int × List Int)} (xs : List Bool) : MarkT kd ws ds xs [] xs := by
  refine ⟨rfl, fun x => ⟨.inl, fun h => ?_⟩⟩
  rcases h with h | h
  · exact h
  · exfalso
    induction h with
    | root h _ => simp at h
    | step _ _ _ ih => exact ih
theorem marksL_offs (n : Nat) : marksL (offs n) = [] := by
  unfold marksL
  rw [List.filter_eq_nil_iff.2 (fun a _ => by rw [offs_get]; simp)]
  rfl
theorem markT_ex {kd : List PK} {ws : List Int} {ds : List (Int × List Int)} (hf : Fine ws kd ds) (xs : List Bool) (hl : xs.length = ws.length) (M : List Int) : ∃ ys, MarkT kd ws ds xs M ys := by
  obtain ⟨f, hfx⟩ : ∃ f : Nat → Bool, ∀ i, f i = true ↔ (onM xs (i : Int) = true ∨ Reach kd ws ds M (i : Int)) := by
    refine ⟨fun i => @decide _ (Classical.propDecidable (onM xs (i : Int) = true ∨ Reach kd ws ds M (i : Int))), fun i => ?_⟩
    simp
  refine ⟨(List.range xs.length).map f, by simp, fun x => ?_⟩
  constructor
  · intro h
    obtain ⟨h0, h1⟩ := onM_lt h
    obtain ⟨k, rfl⟩ := Int.eq_ofNat_of_zero_le h0
    have hk : k < xs.length := by simpa using h1
    rw [onM_nat] at h
    simp [hk] at h
    exact (hfx k).1 h
  · intro h
    have hb : 0 ≤ x ∧ x.toNat < xs.length := by
      rcases h with h | h
      · exact onM_lt h
      · have := h.at'
        rcases at_or hf.ob x with ⟨b, m, k, c, l, f', h1, _⟩ | h1
        · have h2 := h1.facts hf.wf
          have := hf.len
          omega
        · rw [isAt_no h1] at this; cases this
    obtain ⟨k, rfl⟩ := Int.eq_ofNat_of_zero_le hb.1
    have hk : k < xs.length := by simpa using hb.2
    rw [onM_nat]
    simp [hk]
    exact (hfx k).2 h

theorem marksL_mem0 (xs : List Bool) (x : Int) : x ∈ marksL xs ↔ ∃ i : Nat, x = i ∧ i < xs.length ∧ xs[i]?.getD false = true := marksTo_mem xs.length x
theorem setAll_marks (xs : List Bool) : setAll (offs xs.length) true (marksL xs) = xs := by
  have hL : ∀ i ∈ marksL xs, 0 ≤ i ∧ i < ((offs xs.length).length : Int) := by
    intro i hi
    obtain ⟨k, rfl, hk, _⟩ := (marksL_mem0 xs i).1 hi
    rw [offs_length]; omega
  refine beq_of_getD (by rw [setAll_length, offs_length]) (fun t => ?_)
  rw [setAll_get _ _ _ hL]
  split
  · rename_i h
    obtain ⟨k, hk, _, h2⟩ := (marksL_mem0 xs _).1 h
    obtain rfl : t = k := by omega
    exact h2.symm
  · rename_i h
    rw [offs_get]
    cases e : xs[t]?.getD false with
    | false => rfl
    | true =>
      refine absurd ((marksL_mem0 xs _).2 ⟨t, rfl, ?_, e⟩) h
      rcases Nat.lt_or_ge t xs.length with g | g
      · exact g
      · rw [List.getElem?_eq_none g] at e; simp at e
theorem fits_marks (xs : List Bool) : fitsB (offs xs.length).length (marksL xs) = true := by
  rw [fitsB_iff]
  intro i hi
  obtain ⟨k, rfl, hk, _⟩ := (marksL_mem0 xs i).1 hi
  rw [offs_length]; omega
/-- One that is left, or none is. -/
def LeftAt (ls : List Bool) (y : Int) : Prop := (∃ b : Nat, y = b ∧ onM ls (b : Int) = true) ∨ (y < 0 ∧ ∀ x, onM ls x = false)
theorem LeftAt.of (ls : List Bool) : LeftAt ls (nextR ls 0 true) := by
  rcases nextR_spec ls true _ 0 rfl with ⟨h1, h2⟩ | ⟨j, h1, _, h3, h4, _⟩
  · refine .inr ⟨by omega, fun x => ?_⟩
    by_cases h0 : 0 ≤ x
    · obtain ⟨k, rfl⟩ := Int.eq_ofNat_of_zero_le h0
      rw [onM_nat]
      rcases Nat.lt_or_ge k ls.length with g | g
      · have := h2 k (by omega) g; simpa using this
      · rw [List.getElem?_eq_none g]; rfl
    · exact onM_neg _ (by omega)
  · exact .inl ⟨j, h1, by rw [onM_nat]; exact h4⟩
theorem LeftAt.on (ls : List Bool) {i : Nat} (h : 0 ≤ nextR ls i true) : LeftAt ls (nextR ls i true) := by
  rcases nextR_spec ls true _ i rfl with ⟨h1, h2⟩ | ⟨j, h1, _, h3, h4, _⟩
  · omega
  · exact .inl ⟨j, h1, by rw [onM_nat]; exact h4⟩
section
variable {w0 w : World} {F0 : List Nat} {tb hb n bb bg sk lb lg : Nat} {xs0 xs ls ys : List Bool} {L M0 : List Int} {ws : List Int} {kd : List PK} {ds : List (Int × List Int)} {d : Int} {ov : Bool} {A B : Asn}
theorem Has.begin (h : Has w0 F0 (((A.star (trA tb hb n xs)).star B).star (bitsA lb lg ls)) w) : ∃ bb bg sk, Has w0 F0 ((A.star (trX tb hb n bb bg sk lb lg xs ls [])).star B) w := by
  obtain ⟨F, h1, u⟩ := h.swap.map (fun _ g => star_comm (star_mono (fun _ g => star_assoc g) (star_comm g)))
  obtain ⟨F1, F2, hF, ⟨F3, F4, hF1, h3, ⟨F5, F6, hF4, ⟨bb, bg, sk, d, ov, h5, h0, h1⟩, h6, hd5⟩, hd3⟩, h2, hd⟩ := h1
  exact ⟨bb, bg, sk, F, ⟨F1, F2, hF, ⟨F3, F4, hF1, h3, ⟨d, ov, ⟨F5, F6, hF4, h5, h6, hd5⟩, h0, h1⟩, hd3⟩, h2, hd⟩, u⟩
theorem Has.finish (h : Has w0 F0 ((A.star (trX tb hb n bb bg sk lb lg xs ls [])).star B) w) : Has w0 F0 ((A.star (trA tb hb n xs)).star B) w := by
  obtain ⟨d, ov, hX, h0, h1⟩ := h.opened
  have h2 : Has w0 F0 (((A.star (trS tb hb n bb bg sk d xs [] ov)).star B).star (bitsA lb lg ls)) w := (hX.map (fun _ g => star_comm (star_mono (fun _ g => star_assoc' g) (star_comm g)))).swap
  exact h2.fst.map (fun _ g => star_comm (star_mono (fun _ g => star_mono (fun _ g => ⟨bb, bg, sk, d, ov, g, h0, h1⟩) g) (star_comm g)))
set_option maxRecDepth 100000 in
set_option maxHeartbeats 1600000 in
theorem tafter (k : Nat) (w : World) (h : IsBits w lb lg ls) (hk : k ≤ 100000) :
    Calls Tryz.prog 39 #[.pointer (some ⟨lb, 0, none⟩), .int .i64 k] w fun e w' => ∃ y, e = .returned (.int .i64 y) ∧ LeftAt ls y ∧ w = w' := by
  by_cases hn : 0 ≤ nextR ls k true
  · have HL := hid (LeftAt.on ls hn)
    have hb := nextR_bd ls k true
    have hd : decide (0 ≤ nextR ls k true) = true := decide_eq_true hn
    have HN := (show Hid (∀ x : Int, x = nextR ls k true → nextR ls (k : Int).toNat true = x) from fun x e => by rw [Int.toNat_natCast]; exact e.symm)
    generalize nextR ls k true = y at *
    go_enter Tryz.func39, Tryz.ntmps39
    go_wp2_with fail
    refine (bnext_any lb lg (k : Int) true ls _ h (by omega)).mono ?_
    rw [HN.out y rfl]
    rintro e w' ⟨rfl, rfl⟩
    go_wp2_with fail
    go_ret
    exact ⟨y, rfl, HL.out, rfl⟩
  · have hb := nextR_bd ls k true
    have hd : decide (0 ≤ nextR ls k true) = false := decide_eq_false hn
    have HN := (show Hid (∀ x : Int, x = nextR ls k true → nextR ls (k : Int).toNat true = x) from fun x e => by rw [Int.toNat_natCast]; exact e.symm)
    generalize nextR ls k true = y at *
    go_enter Tryz.func39, Tryz.ntmps39
    go_wp2_with fail
    refine (bnext_any lb lg (k : Int) true ls _ h (by omega)).mono ?_
    rw [HN.out y rfl]
    rintro e w' ⟨rfl, rfl⟩
    go_wp2_with fail
    refine (bnext_any lb lg 0 true ls _ h (by omega)).mono ?_
    rintro e w' ⟨rfl, rfl⟩
    go_wp2_with fail
    go_ret
    exact ⟨_, rfl, LeftAt.of ls, rfl⟩
set_option maxRecDepth 100000 in
set_option maxHeartbeats 6400000 in
theorem tmark (ao : Option Addr) (q c : Nat) (M : List Int) (w : World) (h : Has w0 F0 (((heapA hb ws kd ds).star (trA tb hb n xs)).star B) w) (hM : ∀ A w', Has w0 F0 (Asn.star A B) w' → IntsAt w' ao M) (hq : M.length = q) (hq2 : q ≤ 1000) (hx : MOk kd ws ds xs) (hT : MarkT kd ws ds xs M ys) :
    Calls Tryz.prog 10 #[.pointer (some ⟨tb, 0, none⟩), .slice ao q c] w fun e w' => e = .returned (.tuple #[]) ∧ Has w0 F0 (((heapA hb ws kd ds).star (trA tb hb n ys)).star B) w' := by
  have HX0 := hid h
  have HM := hid hM
  have HO := hid hx
  have HY := hid hT
  have HQ := (show Hid (M.length = q) from hq)
  have hN := h.fst.fst.fewH
  obtain ⟨bb, bg, c0, hB⟩ := h.fst.snd.trb
  obtain ⟨N, hNl⟩ : ∃ N, xs.length = N := ⟨_, rfl⟩
  have hN2 : N ≤ 16384 := by rw [← hNl, hx.len]; exact hN
  have HNL := (show Hid (xs.length = N) from hNl)
  clear h hM hT hq hx hN
  go_enter Tryz.func10, Tryz.ntmps10
  go_wp2_with fail
  refine (bsize_any bb bg xs _ hB).mono ?_
  rw [HNL.out]
  rintro e w' ⟨rfl, rfl⟩
  clear hB c0 hNl
  go_wp2_with fail
  refine (bnew_ok N _ hN2).mono ?_
  rintro e w1 ⟨lb, lg, rfl, hB1, hK1, hb1, hb2⟩
  have HX1 := hid (HX0.out.more hK1 (B := bitsA lb lg (offs N)) (G := [lb, lg]) ⟨rfl, hB1⟩ (fun k hk => by simp at hk; omega))
  have hlg : lg < w1.heap.size := hB1.lt.2
  clear hB1 hK1 hb1 hb2 HX0
  go_wp2_with fail
  refine (tall _ HX1.out.fst.fst.snd).mono ?_
  rintro e w2 ⟨v2, m2, rfl, hown2, hK2⟩
  obtain ⟨la, lc, rfl, rfl, hI2, hoff, _⟩ := owned_form hown2 (marksL_in xs (by rw [HNL.out]; exact hN2))
  have hlen : (marksL xs).length ≤ 16384 := by rw [marksL_count]; have := cntA_le xs; have := HNL.out; omega
  have HI2 := hid hI2
  have HF2 := (show Hid (Off la [lg]) from fun a e => by have := hoff a e; simp; omega)
  have HX2 := hid (HX1.out.keep0 hK2)
  obtain ⟨qm, hqm⟩ : ∃ qm, (marksL xs).length = qm := ⟨_, rfl⟩
  have HQM := (show Hid ((marksL xs).length = qm ∧ qm ≤ 16384) from ⟨hqm, by omega⟩)
  rw [hqm]
  clear hI2 hoff hown2 hK2 hlg HX1 hlen hqm
  go_wp2_with fail
  have hset := bset_yes lb lg lc true (offs N) la (marksL xs) _ HX2.out.snd.lbits HI2.out (fun _ => HF2.out) (by have := HQM.out; omega) (by rw [← HNL.out]; exact fits_marks xs)
  rw [HQM.out.1] at hset
  refine hset.mono ?_
  rintro e w3 ⟨rfl, hB3, hK3⟩
  clear hset
  rw [← HNL.out, setAll_marks] at hB3
  obtain ⟨bb, bg, sk, hX3⟩ := (HX2.out.then (Up.r (up_bits hB3 hK3))).begin
  have HX3 := hid hX3
  clear hX3 hB3 hK3 HX2 HI2 HF2 HQM
  go_wp2_with fail
  refine (treach ao q c M _ HX3.out HM.out HQ.out (by omega) HO.out TR.start).mono ?_
  rintro e w4 ⟨xs4, ls4, rfl, hX4, hT4, _⟩
  have HX4 := hid hX4
  have HT4 := hid hT4
  clear hX4 hT4 HX3 HM
  go_wp2_with fail
  refine (bnext_any lb lg 0 true ls4 _ HX4.out.lrow (by omega)).mono ?_
  rintro e w' ⟨rfl, rfl⟩
  have HL4 := (show Hid (LeftAt ls4 (nextR ls4 (0 : Int).toNat true)) from LeftAt.of ls4)
  generalize nextR ls4 (0 : Int).toNat true = y4 at *
  go_wp2_with fail
  go_loopw [6] (fun v wr => ∃ (y : Int) (zs ks : List Bool), v = .int .i64 y ∧ Hid (Has w0 F0 (((heapA hb ws kd ds).star (trX tb hb n bb bg sk lb lg zs ks [])).star B) wr) ∧ Hid (TR kd ws ds xs M zs ks [] []) ∧ Hid (LeftAt ks y)) (fun _ wr => muW N bg lg sk wr)
  case atStart => exact ⟨y4, xs4, ls4, rfl, HX4.out, HT4.out, HL4.out⟩
  case round =>
    obtain ⟨y, zs, ks, rfl, HX, HT, HL⟩ := hrel
    clear HX4 HT4 HL4
    have hmr := HX.out.mu
    rw [HT.out.len, HNL.out] at hmr
    have HMR := hid hmr
    clear hmr
    rcases HL.out with ⟨b, rfl, hbon⟩ | ⟨hneg, hnone⟩
    · have hd : decide (0 ≤ (b : Int)) = true := decide_eq_true (by omega)
      have hbl : b < ks.length := by have := (onM_lt hbon).2; simpa using this
      have hbs : b ≤ 16384 := by have := HT.out.len2; have := HNL.out; omega
      obtain ⟨R, hR⟩ := refsT_ex HX.out.fst.fst.fine.ob (b : Int)
      obtain ⟨Z, hZ⟩ := kids_ex HX.out.fst.fst.fine R (b : Int)
      have hf := HX.out.fst.fst.refs_few hR
      have HZ := (show Hid (RefsT kd ws ds b R ∧ KidsT kd ws R b Z ∧ Z.length ≤ 1000000) from ⟨hR, hZ, by rw [hZ.1]; exact hf⟩)
      have HT1 := (show Hid (TR kd ws ds xs M zs (ks.set b false) [] Z) from HT.out.left HO.out hbon hR hZ)
      have HM1 := (show Hid (muT zs (ks.set b false) [] + 1 = muT zs ks []) from muT_left hbon)
      have HBL := hid hbl
      clear HL hbon hR hZ hf HT hbl
      go_wp2_with fail
      refine (bset_one lb lg b false ks wr HX.out.lrow HBL.out).mono ?_
      rintro e w5 ⟨rfl, hB5, hK5⟩
      obtain ⟨d5, ov5, hX5, h50, h51⟩ := HX.out.opened
      have HX5 := (show Hid (Has w0 F0 (((heapA hb ws kd ds).star (trX tb hb n bb bg sk lb lg zs (ks.set b false) [])).star B) w5) from (hX5.then (Up.l (Up.r (Up.r (up_bits hB5 hK5))))).shut h50 h51)
      obtain ⟨d6, hc6⟩ := HX5.out.trcells
      have HC6 := hid hc6
      clear hB5 hK5 hX5 h50 h51 HX hc6
      go_wp2_with fail
      refine (tleads (b : Int) R Z _ HX5.out.fst.fst HC6.out HZ.out.1 HZ.out.2.1).mono ?_
      rintro e w6 ⟨la6, lc6, rfl, hO6, hK6⟩
      have HX6 := hid (HX5.out.ownL hK6 hO6).assoc
      clear hO6 hK6 HX5 HC6
      obtain ⟨qz, hqz⟩ : ∃ qz, Z.length = qz := ⟨_, rfl⟩
      have HQZ := (show Hid (Z.length = qz) from hqz)
      rw [hqz]
      clear hqz
      go_wp2_with fail
      refine (treach la6 qz lc6 Z _ HX6.out (fun A w' h => h.snd.snd.list) HQZ.out (by rw [← HQZ.out]; exact HZ.out.2.2) HO.out HT1.out).mono ?_
      rintro e w7 ⟨xs7, ls7, rfl, hX7, hT7, hm7⟩
      have HX7 := hid hX7.assoc'.fst
      have HT7 := hid hT7
      have HM7 := hid hm7
      clear hX7 hT7 hm7 HX6 HT1
      go_wp2_with fail
      refine (tafter b _ HX7.out.lrow (by omega)).mono ?_
      rintro e w' ⟨y7, rfl, hL7, rfl⟩
      have HL7 := hid hL7
      clear hL7
      go_wp2_with fail
      go_roundw
      case rel => exact ⟨y7, xs7, ls7, rfl, HX7, HT7, HL7⟩
      case measure =>
        have h1 := HX7.out.mu
        rw [HT7.out.len, HNL.out] at h1
        have h2 := HMR.out
        have h3 := HM7.out
        have h4 := HM1.out
        omega
    · have hd : decide (0 ≤ y) = false := decide_eq_false (by omega)
      have hE := HT.out.done hnone
      have hE2 := HY.out.one hE
      subst hE2
      clear hE hnone
      go_wp2_with fail
      go_end0
      exact ⟨rfl, HX.out.finish⟩
end

end Go.Proofs.YtgpidokklhjfdaaGreat

/-
  The document's own marks: new ones, Mark, All.
-/
namespace Go.Proofs.YtgpidokklhjfdaaGreat
open Go.RowKit

theorem headed_okG (k c l : Int) (f o : Bool) (w : World) : (Instr.field 97 (.agg #[.int .i64 k, .int .i64 c, .int .i64 l, .bool f, .bool o]) 1).run Tryz.prog w = .ok (.bool o) w := by
  kernel_rfl
theorem got_numG (N E : Int) (w : World) : (Instr.field 73 (.agg #[.int .i64 N, .int .i64 E]) 0).run Tryz.prog w = .ok (.int .i64 N) w := by
  kernel_rfl
/-- Marks in memory. -/
def brA (g : Nat) (xs : List Bool) : Asn where
  at' w F := F = [g] ∧ BRow w 4 g xs
  keep := fun h K hS => ⟨h.1, h.2.keep K (hS _ (by rw [h.1]; simp))⟩
  lt := fun h k hk => by
    rw [h.1] at hk
    simp at hk
    subst hk
    exact h.2.lt
section
variable {w0 w : World} {F0 : List Nat} {hb mb g : Nat} {xs ys : List Bool} {ws : List Int} {kd : List PK} {ds : List (Int × List Int)}
theorem Has.brow (h : Has w0 F0 (brA g xs) w) : BRow w 4 g xs := h.fact (fun _ h => h.2)
theorem up_brow (h : BRow w 4 g xs) (i : Nat) (v : Bool) : Up w (w.setCell ⟨g, i, none⟩ (.bool v)) (brA g xs) (brA g (xs.set i v)) := fun F hF => ⟨F, ⟨hF.1, h.put i v⟩, ⟨by rw [hF.1]; exact Keep.setCell _ _ (by simp), fun _ e => .inl e⟩⟩
set_option maxRecDepth 100000 in
theorem rmarks_new (w : World) (h : Has w0 F0 (rheapA hb ws kd ds) w) :
    Calls Tryz.prog 8 #[.pointer (some ⟨hb, 0, none⟩)] w fun e w' => ∃ g, e = .returned (.slice (some ⟨g, 0, none⟩) ws.length ws.length) ∧ Has w0 F0 ((rheapA hb ws kd ds).star (brA g (offs ws.length))) w' := by
  have HX := hid h
  have hl2 := h.rfine.wf.len2
  obtain ⟨mb, hr⟩ := h.rraw
  have hc := hr.rcells
  have c0 := hc.1
  obtain ⟨gw, c1, _⟩ := hc.2.2.1
  rw [← hc.2.2.2] at c1
  have hl := hc.2.2.2
  obtain ⟨N, hN⟩ : ∃ N, ws.length = N := ⟨_, rfl⟩
  have hN2 : N ≤ 16384 := by omega
  have HN := hid hN
  rw [hN] at c1 ⊢
  clear h hr hc hl hl2 hN
  have hmk : ∀ w, (Instr.makeSlice 41 (.int .i64 (N : Int)) (.int .i64 (N : Int))).run Tryz.prog w = .ok (.slice (some ⟨w.heap.size, 0, none⟩) N N) (w.alloc (.cells (madeCells #[.bool false] N) 4)) :=
    fun w => run_make_row' (P := Tryz.prog) 41 4 (.bool false) 1 (by kernel_rfl) Tryz.infoBool rfl .i64 .i64 N (by omega) (by omega) w
  go_enter Tryz.func8, Tryz.ntmps8
  go_wp2_with fail
  go_ret
  exact ⟨_, rfl, HX.out.more (Keep.alloc [] w _) (B := brA w.heap.size (offs N)) (G := [w.heap.size]) ⟨rfl, BRow.made w _ N⟩ (fun k hk => by simp at hk; omega)⟩
set_option maxRecDepth 100000 in
set_option maxHeartbeats 1600000 in
theorem rall (N : Nat) (w : World) (h : BRow w 4 g xs) (hN : xs.length = N) (hl : N ≤ 16384) :
    Calls Tryz.prog 14 #[.slice (some ⟨g, 0, none⟩) N N] w fun e w' => ∃ (v : Value) (m : Nat), e = .returned v ∧ w'.ownsRow w.heap.size 3 1 v m (ints (marksL xs)) ∧ Keep [] w w' := by
  obtain ⟨i0, hi, hz0, hz1, hz2⟩ := info_parts Tryz.infoIntTr
  have hI : Hid (Tryz.prog.info? 3 = some i0 ∧ i0.zero = some (.int .i64 0) ∧ i0.size = 1 ∧ i0.bytes = 8) := ⟨hi, hz0, hz1, hz2⟩
  clear hi hz0 hz1 hz2
  have HB := hid h
  have HN := hid hN
  clear h hN
  go_enter Tryz.func14, Tryz.ntmps14
  go_wp2_with fail
  go_loopw [3, 4] (fun v x wr => ∃ (j m : Nat) (v' : Value), v' = v ∧ x = .int .i64 j ∧ j ≤ N ∧ m ≤ j ∧ Hid (wr.ownsRow w.heap.size 3 1 v m (ints (marksTo xs j))) ∧ Hid (Keep [] w wr)) (fun _ x _ => N - (intOf x).toNat)
  case atStart => exact ⟨0, 0, _, rfl, rfl, by omega, by omega, World.ownsRow_nil _ _ _ _, Keep.refl _ _⟩
  case round =>
    obtain ⟨j, m, v', hv', rfl, hj, hm, HO, HK⟩ := hrel
    subst hv'
    by_cases hlt : j < N
    · have hd : decide ((j : Int) < (N : Int)) = true := decide_eq_true (by omega)
      have cj := (HB.out.keep HK.out (by simp)).cell (i := j) (by rw [HN.out]; exact hlt)
      cases hx : xs[j]?.getD false with
      | false =>
        rw [hx] at cj
        have hN := marksTo_no hx
        have HO1 := (show Hid (wr.ownsRow w.heap.size 3 1 v' m (ints (marksTo xs (j + 1)))) from by rw [hN]; exact HO.out)
        clear hN hx HO
        go_wp2_with fail
        go_roundw
        case rel => exact ⟨j + 1, m, _, rfl, by go_num, by omega, by omega, HO1, HK⟩
        case measure => simp [intOf]; omega
      | true =>
        rw [hx] at cj
        have hN := marksTo_yes hx
        have HN1 := hid hN
        have hK1 := Keep.alloc [] wr (.cells #[.int .i64 (j : Int)] 3)
        have HO1 := hid (own_keep6 HO.out hK1)
        have HK1 := hid (HK.out.trans hK1)
        have HM := hid (IntsAt.one wr 3 (j : Int) (by omega) (by omega))
        have hsz := HK1.out.size
        clear hK1 HO HK hN hx
        go_wp2_with (first
          | (at_builtin; refine append_ints rfl (.tmp 15) (.tmp 17) 25 rfl w.heap.size 3 i0 Tryz.underlying25 hI.out _ m (marksTo xs j) [(j : Int)] rfl HO1.out (some ⟨wr.heap.size, 0, none⟩) 1 1 rfl rfl HM.out (by simp) (by omega) hsz ?_; intro v5 w5 hown5 hgrow; have hK5 := HK1.out.grown hgrow (own_block HO1.out); have HO5 := hid hown5; have HK5 := hid hK5; rw [← HN1.out] at HO5; clear hown5 hgrow hK5 HO1 HK1 HM))
        go_roundw
        case rel => exact ⟨j + 1, m + 1, _, rfl, by go_num, by omega, by omega, HO5, HK5⟩
        case measure => simp [intOf]; omega
    · obtain rfl : j = N := by omega
      have hd : decide ((j : Int) < (j : Int)) = false := decide_eq_false (by omega)
      have hE : marksTo xs j = marksL xs := by rw [← HN.out]; rfl
      rw [hE] at HO
      clear hE
      go_wp2_with fail
      go_ret
      exact ⟨_, m, rfl, HO.out, HK.out⟩
end

end Go.Proofs.YtgpidokklhjfdaaGreat

/-
  The document's own marks: what Mark leaves.
-/
namespace Go.Proofs.YtgpidokklhjfdaaGreat
open Go.RowKit

section
variable {w0 w : World} {F0 : List Nat} {hb mb g : Nat} {xs ys : List Bool} {ws : List Int} {kd : List PK} {ds : List (Int × List Int)}
/-- Where a tracing by a list stands. -/
structure RMi (kd : List PK) (ws : List Int) (ds : List (Int × List Int)) (xs : List Bool) (M T : List Int) (q i n : Nat) (zs : List Bool) : Prop where
  rm : RM kd ws ds xs M T i zs
  len : T.length = n
  few : n ≤ q + 8 * cntA zs
  bd : inR T
  at' : i ≤ n
theorem RMi.obj {M T : List Int} {q i n : Nat} {zs : List Bool} (h : RMi kd ws ds xs M T q i n zs) (hx : MOk kd ws ds xs) (x : Int) (e : onM zs x = true) : isAt kd x = true := by
  rcases h.rm.sound x e with e | e
  · exact hx.obj x e
  · exact e.at'
theorem RMi.next {M T : List Int} {q i n : Nat} {zs : List Bool} (h : RMi kd ws ds xs M T q i n zs) (hi : i < n) (hs : isAt kd (T[i]?.getD 0) = true → onM zs (T[i]?.getD 0) = true) : RMi kd ws ds xs M T q (i + 1) n zs :=
  ⟨h.rm.skip hs, h.len, h.few, h.bd, by omega⟩
theorem RMi.put {M T R Z : List Int} {q i n b r : Nat} {zs : List Bool} (hf : Fine ws kd ds) (h : RMi kd ws ds xs M T q i n zs) (hi : i < n) (hb : T[i]?.getD 0 = (b : Int)) (hat : isAt kd (b : Int) = true) (hl : b < zs.length) (hz : zs[b]?.getD false = false) (hR : RefsT kd ws ds b R) (hZ : KidsT kd ws R b Z) (hr : Z.length = r) (hr8 : r ≤ 8) : RMi kd ws ds xs M (T ++ Z) q (i + 1) (n + r) (zs.set b true) := by
  refine ⟨h.rm.mark (by rw [h.len]; exact hi) hb hat hl hR hZ, by rw [List.length_append, h.len, hr], ?_, inR_app h.bd (fun k => ?_), by omega⟩
  · have := cntA_set zs b hl
    rw [hz] at this
    simp at this
    have := h.few
    omega
  · by_cases hk : k < R.length
    · obtain ⟨E, hE⟩ := hZ.2 k hk
      exact fieldT_in hf hE
    · rw [List.getElem?_eq_none (by rw [hZ.1]; omega)]; exact inI_0
set_option maxRecDepth 100000 in
set_option maxHeartbeats 6400000 in
theorem rmark {B : Asn} (N : Nat) (ao : Option Addr) (q c : Nat) (M : List Int) (w : World) (h : Has w0 F0 (((rheapA hb ws kd ds).star (brA g xs)).star B) w) (hN : xs.length = N) (hM : IntsAt w ao M) (hq : M.length = q) (hq2 : q ≤ 100) (hc : ao = none → c = 0) (hx : MOk kd ws ds xs) (hT : MarkT kd ws ds xs M ys)
    (hcnt : ∀ zs : List Bool, zs.length = ws.length → (∀ x, onM zs x = true → isAt kd x = true) → cntA zs ≤ 24) (hr : ∀ x R, RefsT kd ws ds x R → R.length ≤ 8) :
    Calls Tryz.prog 11 #[.slice (some ⟨g, 0, none⟩) N N, .pointer (some ⟨hb, 0, none⟩), .slice ao q c] w fun e w' => e = .returned (.tuple #[]) ∧ Has w0 F0 (((rheapA hb ws kd ds).star (brA g ys)).star B) w' := by
  obtain ⟨i0, hi, hz0, hz1, hz2⟩ := info_parts Tryz.infoIntTr
  have hI : Hid (Tryz.prog.info? 3 = some i0 ∧ i0.zero = some (.int .i64 0) ∧ i0.size = 1 ∧ i0.bytes = 8) := ⟨hi, hz0, hz1, hz2⟩
  clear hi hz0 hz1 hz2
  have hNw : ws.length = N := by rw [← hx.len]; exact hN
  have hNb : N ≤ 16384 := by
    have h1 := h.fst.fst.rfine.len
    have h2 := h.fst.fst.rfine.wf.len2
    omega
  have HX0 := hid h
  have HO := (show Hid (MOk kd ws ds xs ∧ xs.length = N ∧ ws.length = N) from ⟨hx, hN, hNw⟩)
  have HT := hid hT
  have HCR := (show Hid ((∀ zs : List Bool, zs.length = ws.length → (∀ x, onM zs x = true → isAt kd x = true) → cntA zs ≤ 24) ∧ ∀ x R, RefsT kd ws ds x R → R.length ≤ 8) from ⟨hcnt, hr⟩)
  have HM := (show Hid (M.length = q ∧ (ao = none → c = 0) ∧ inR M ∧ IntsAt (w.alloc (.cells #[] 3)) ao M) from ⟨hq, hc, fun i => ⟨hM.low i, hM.high i⟩, hM.keep (Keep.alloc [] _ _) (fun _ _ _ => by simp)⟩)
  have HE := (show Hid ((w.alloc (.cells #[] 3)).ownsRow w.heap.size 3 1 (.slice (some ⟨w.heap.size, 0, none⟩) 0 0) 0 (ints [])) from own_empty w 3)
  clear h hN hM hq hc hx hT hcnt hr hNw
  go_enter Tryz.func11, Tryz.ntmps11
  go_wp2_with (first
    | (at_builtin; refine append_ints rfl (.tmp 11) (.tmp 12) 25 rfl w.heap.size 3 i0 Tryz.underlying25 hI.out _ 0 [] M rfl HE.out ao q c HM.out.1 rfl HM.out.2.2.2 HM.out.2.1 (by omega) (by simp) ?_; intro v1 w1 hown1 hgrow1; rw [Nat.zero_add, List.nil_append] at hown1; have hK1 := (Keep.alloc [] w (.cells #[] 3)).grown hgrow1 (own_block HE.out); have HX1 := hid (HX0.out.more hK1 (B := midA 3 v1 M) (G := v1.ownBlock.toList) ⟨rfl, own_mid hown1⟩ (fun k hk => own_block hown1 k (by simpa using hk))); obtain ⟨l1, c1, hv1⟩ := (own_mid hown1).form; rw [HM.out.1] at hv1; subst hv1; clear hown1 hgrow1 hK1))
  go_loopw [6, 7] (fun v6 v7 wr => ∃ (i n lc : Nat) (la : Option Addr) (T : List Int) (zs : List Bool), v6 = .slice la n lc ∧ v7 = .int .i64 i ∧ Hid (RMi kd ws ds xs M T q i n zs) ∧ Hid (Has w0 F0 ((((rheapA hb ws kd ds).star (brA g zs)).star B).star (midA 3 (.slice la n lc) T)) wr)) (fun _ v7 _ => q + 200 - (intOf v7).toNat)
  case atStart => exact ⟨0, q, c1, l1, M, xs, rfl, rfl, ⟨RM.start xs M, HM.out.1, by omega, HM.out.2.2.1, by omega⟩, HX1.out⟩
  case round =>
    obtain ⟨i, n, lc, la, T, zs, rfl, rfl, HR, HX⟩ := hrel
    clear HX1 HX0
    have hcz : cntA zs ≤ 24 := HCR.out.1 zs (by rw [HR.out.rm.len, HO.out.2.1, HO.out.2.2]) (HR.out.obj HO.out.1)
    have hin := HR.out.at'
    have hnb : n ≤ q + 192 := by have := HR.out.few; omega
    have hzl : zs.length = N := by rw [HR.out.rm.len]; exact HO.out.2.1
    have HZL := (show Hid (zs.length = N ∧ cntA zs ≤ 24) from ⟨hzl, hcz⟩)
    clear hcz hzl
    by_cases hlt : i < n
    · have hd : decide ((i : Int) < (n : Int)) = true := decide_eq_true (by omega)
      obtain ⟨mb, off, rfl, _, hcl⟩ := (HX.out.snd.fact (fun _ h => (IsMid.ints h.2 HR.out.bd).1) : IntsAt wr la T).cells (by rw [HR.out.len]; omega)
      have ci := hcl i (by rw [HR.out.len]; exact hlt)
      have HTi := (show Hid (∀ y, T[i]?.getD 0 = y → inI y) from fun y e => by rw [← e]; exact HR.out.bd i)
      obtain ⟨x, hxe⟩ : ∃ x, T[i]?.getD 0 = x := ⟨_, rfl⟩
      have HXE := hid hxe
      rw [hxe] at ci
      clear hcl hxe
      by_cases hat : isAt kd x = true
      · obtain ⟨b, m, k, cc, l, f, rfl, hA, hbl⟩ := isAt_at HX.out.fst.fst.fst.rfine hat
        have hbN : b < N := by rw [← HO.out.2.2]; exact hbl
        have HA := (show Hid (isAt kd (b : Int) = true ∧ HeadT kd ws b k cc l f 0) from ⟨hat, .yes b m k cc l f hA⟩)
        have hfx : ∀ w, (Instr.field 97 (.agg #[.int .i64 k, .int .i64 cc, .int .i64 l, .bool f, .bool true]) 1).run Tryz.prog w = .ok (.bool true) w := headed_okG k cc l f true
        clear hat hA hbl
        go_wp2_with fail
        refine (rhead (b : Int) _ _ _ _ _ wr HX.out.fst.fst.fst HA.out.2).mono ?_
        rw [show okE 0 = true from rfl]
        rintro e w2 ⟨rfl, hK2⟩
        have HX2 := hid (HX.out.keep0 hK2)
        have hcb := HX2.out.fst.fst.snd.brow.cell (i := b) (by rw [HZL.out.1]; exact hbN)
        have hfb := HX2.out.fst.fst.snd.brow.free b
        clear hK2 HX ci
        cases hz : zs[b]?.getD false with
        | true =>
          rw [hz] at hcb
          have HR1 := hid (HR.out.next hlt (fun _ => by rw [HXE.out, onM_nat]; exact hz))
          clear hz HR
          go_wp2_with fail
          go_roundw
          case rel => exact ⟨i + 1, n, lc, _, T, zs, rfl, by go_num, HR1, HX2⟩
          case measure => simp [intOf]; omega
        | false =>
          rw [hz] at hcb
          obtain ⟨R, hR⟩ := refsT_ex HX2.out.fst.fst.fst.rfine.ob (b : Int)
          obtain ⟨Z, hZ⟩ := kids_ex HX2.out.fst.fst.fst.rfine R (b : Int)
          have hR8 := HCR.out.2 _ R hR
          obtain ⟨r, hr⟩ : ∃ r, R.length = r := ⟨_, rfl⟩
          rw [hr] at hR8
          have hZr : Z.length = r := by rw [hZ.1, hr]
          have HR1 := hid (HR.out.put HX2.out.fst.fst.fst.rfine hlt HXE.out HA.out.1 (by rw [HZL.out.1]; exact hbN) hz hR hZ hZr hR8)
          have HRT := (show Hid (RefsT kd ws ds b R ∧ R.length = r ∧ Z.length = r ∧ T.length = n) from ⟨hR, hr, hZr, HR.out.len⟩)
          have HF := (show Hid (∀ k, k < r → ∃ E, FieldT kd ws b (R[k]?.getD 0) (Z[k]?.getD 0) E) from fun k hk => hZ.2 k (by rw [hr]; exact hk))
          have HX3 := (show Hid (Has w0 F0 ((((rheapA hb ws kd ds).star (brA g (zs.set b true))).star B).star (midA 3 (.slice (some ⟨mb, off, none⟩) n lc) T)) (w2.setCell ⟨g, b, none⟩ (.bool true))) from HX2.out.then (Up.l (Up.l (Up.r (up_brow HX2.out.fst.fst.snd.brow b true)))))
          clear hz hR hZ hr hZr HR HX2
          go_wp2_with fail
          refine (has_left_ex HX3.out (fun F hF => has_left_ex hF (fun F hF => has_left_ex (X := Option Addr × Nat) (A' := fun p => rlistA hb ws kd ds p.1 R) (Q := fun p e _ => e = .returned (.slice p.1 R.length p.2)) hF (fun F hF => (rrefs_list (b : Int) R _ hF HRT.out.1).mono (fun e w' ⟨la, lc, h1, h2⟩ => ⟨(la, lc), h1, h2⟩))))).mono ?_
          rintro e w4 ⟨⟨ra, rc⟩, rfl, hX4⟩
          have HX4 := hid hX4
          rw [HRT.out.2.1]
          clear hX4 HX3 hcb hfb
          go_wp2_with fail
          go_loopw [6, 10] (fun v6 v10 wq => ∃ (k lc' : Nat) (la' : Option Addr), v6 = .slice la' (n + k) lc' ∧ v10 = .int .i64 k ∧ k ≤ r ∧ Hid (Has w0 F0 ((((rlistA hb ws kd ds ra R).star (brA g (zs.set b true))).star B).star (midA 3 (.slice la' (n + k) lc') (T ++ Z.take k))) wq)) (fun _ v _ => r - (intOf v).toNat)
          case atStart => exact ⟨0, lc, some ⟨mb, off, none⟩, by simp, rfl, by omega, hid (by simpa using HX4.out)⟩
          case round =>
            obtain ⟨k, lc', la', rfl, rfl, hk, HX5⟩ := hrel
            clear HX4
            by_cases hkl : k < r
            · have hd2 : decide ((k : Int) < (r : Int)) = true := decide_eq_true (by omega)
              obtain ⟨rb, ro, rfl, _, hrc⟩ := HX5.out.fst.fst.fst.rlints.cells (by rw [HRT.out.2.1]; omega)
              have hck := hrc k (by rw [HRT.out.2.1]; exact hkl)
              obtain ⟨E, hE⟩ := HF.out k hkl
              have HE2 := hid hE
              have HT2 := (show Hid (T ++ Z.take (k + 1) = (T ++ Z.take k) ++ [Z[k]?.getD 0]) from by
                show _ = _
                rw [List.append_assoc, List.take_add_one, List.getElem?_eq_getElem (by rw [HRT.out.2.2.1]; exact hkl)]
                rfl)
              have HTL := (show Hid ((T ++ Z.take (k + 1)).length = n + (k + 1) ∧ (T ++ Z.take k).length = n + k) from by
                have h1 := HRT.out.2.2.2
                have h2 := HRT.out.2.2.1
                constructor <;> (rw [List.length_append, List.length_take]; omega))
              clear hrc hE
              generalize R[k]?.getD 0 = rk at *
              generalize Z[k]?.getD 0 = zk at *
              have hg := fun w => got_numG zk E w
              go_wp2_with fail
              refine (rfield (b : Int) rk zk E _ HX5.out.fst.fst.fst.rlheap HE2.out).mono ?_
              rintro e w6 ⟨rfl, hK6⟩
              have HX6 := hid ((HX5.out.keep0 hK6).keep0 (Keep.alloc [] w6 (.cells #[.int .i64 zk] 3)))
              clear hK6 HX5 hck
              go_wp2_with (at_builtin; refine wpList_append_mid _ rfl (.tmp 47) (.tmp 56) 25 rfl 3 i0 Tryz.underlying25 hI.out (.slice la' (n + k) lc') (T ++ Z.take k) rfl (HX6.out.snd.fact (fun _ h => h.2)) w6.heap.size zk 1 rfl (cell_of_one (heap_alloc_new _ _)) (by have := HTL.out.2; omega) ?_; intro v7 w7 hm7 hK7 hg7; have HX7 := hid (HX6.out.midTurn hK7 hm7 hg7); obtain ⟨l7, c7, hv7⟩ := hm7.form; rw [← HT2.out] at HX7; rw [← HT2.out, HTL.out.1] at hv7; subst hv7; clear hm7 hK7 hg7)
              go_roundw
              case rel => exact ⟨k + 1, c7, l7, rfl, by go_num, by omega, HX7⟩
              case measure => simp [intOf]; omega
            · obtain rfl : k = r := by omega
              have hd2 : decide ((k : Int) < (k : Int)) = false := decide_eq_false (by omega)
              have HX6 := (show Hid (Has w0 F0 ((((rheapA hb ws kd ds).star (brA g (zs.set b true))).star B).star (midA 3 (.slice la' (n + k) lc') (T ++ Z))) _) from by
                have h := HX5.out
                rw [← HRT.out.2.2.1, List.take_length, HRT.out.2.2.1] at h
                exact h.then (Up.l (Up.l (fun F h => Has.rldrop (Has.start h)))))
              clear HX5
              go_wp2_with fail
              go_roundw
              case rel => exact ⟨i + 1, n + k, lc', la', T ++ Z, zs.set b true, rfl, by go_num, HR1, HX6⟩
              case measure => simp [intOf]; omega
      · have hN := isAt_no' HX.out.fst.fst.fst.rfine hat
        have HHT := (show Hid (HeadT kd ws x 0 0 0 false 2) from .no hN)
        have HR1 := hid (HR.out.next hlt (fun e => absurd (by rw [← HXE.out]; exact e) hat))
        have hfx : ∀ w, (Instr.field 97 (.agg #[.int .i64 0, .int .i64 0, .int .i64 0, .bool false, .bool false]) 1).run Tryz.prog w = .ok (.bool false) w := headed_okG 0 0 0 false false
        clear hN hat HR
        go_wp2_with fail
        refine (rhead x _ _ _ _ _ wr HX.out.fst.fst.fst HHT.out).mono ?_
        rw [show okE 2 = false from rfl]
        rintro e w2 ⟨rfl, hK2⟩
        have HX2 := hid (HX.out.keep0 hK2)
        clear hK2 HX ci HHT
        go_wp2_with fail
        go_roundw
        case rel => exact ⟨i + 1, n, lc, _, T, zs, rfl, by go_num, HR1, HX2⟩
        case measure => simp [intOf]; omega
    · obtain rfl : i = n := by omega
      have hd : decide ((i : Int) < (i : Int)) = false := decide_eq_false (by omega)
      have hD := HR.out.rm.done HO.out.1 (by rw [HR.out.len]; exact Nat.le_refl _)
      obtain rfl := HT.out.one hD
      have HX2 := hid HX.out.fst
      clear hD HX HR HZL
      go_wp2_with fail
      go_end0
      exact ⟨rfl, HX2.out⟩
end

end Go.Proofs.YtgpidokklhjfdaaGreat
