/-
  Contracts of what the statement calls, one text behind the other (HeadRefGet, RHeapAt, SpaceTake, SpaceAll, SpaceFree, SpaceHeld, HeapAt, Obj, ObjMake, RHeap).
-/
import Derived.Test.YtgpidokklhjfdaaGreatPart3
import Derived.Test.YtgpidokklhjfdaaGreatPart1
import Derived.Test.YtgpidokklhjfdaaGreatPart4
import Derived.Test.YtgpidokklhjfdaaGreatPart2
import Derived.Deep.RegionHeld3
import Derived.Deep.RegionLaw

/-
  The document's own Get of heads.
-/
namespace Go.Proofs.YtgpidokklhjfdaaGreat
open Go.RowKit

theorem ref_parts {x : Int} (h0 : 0 ≤ x) : x % 8 = wk x ∧ (x / 8 % 2 == 1) = wf x ∧ x / 16 % 4096 = wc x ∧ x / 65536 = wl x := by
  unfold wk wc wl wf
  rw [Int.tmod_eq_emod_of_nonneg (by omega), Int.tmod_eq_emod_of_nonneg (by omega), Int.tmod_eq_emod_of_nonneg (by omega), Int.tdiv_eq_ediv_of_nonneg (by omega), Int.tdiv_eq_ediv_of_nonneg (by omega)]
  refine ⟨rfl, ?_, by omega, rfl⟩
  rw [Bool.eq_iff_iff]; simp; omega

/-- Five cells of a block. -/
theorem five_free {w : World} {b : Nat} {t : TypeId} {a0 a1 a2 a3 a4 : Value} (h : w.heap[b]? = some (.cells #[a0, a1, a2, a3, a4] t (0, 0))) :
    (w.frozen? ⟨b, 0, none⟩ = false ∧ w.frozen? ⟨b, 1, none⟩ = false ∧ w.frozen? ⟨b, 2, none⟩ = false ∧ w.frozen? ⟨b, 3, none⟩ = false ∧ w.frozen? ⟨b, 4, none⟩ = false) ∧
    w.cell? ⟨b, 0, none⟩ = some a0 ∧ w.cell? ⟨b, 1, none⟩ = some a1 ∧ w.cell? ⟨b, 2, none⟩ = some a2 ∧ w.cell? ⟨b, 3, none⟩ = some a3 ∧ w.cell? ⟨b, 4, none⟩ = some a4 := by
  refine ⟨⟨?_, ?_, ?_, ?_, ?_⟩, ?_, ?_, ?_, ?_, ?_⟩ <;> simp [World.frozen?, World.cell?, h]
theorem five_put {w : World} {b : Nat} {t : TypeId} {a0 a1 a2 a3 a4 : Value} (h : w.heap[b]? = some (.cells #[a0, a1, a2, a3, a4] t (0, 0))) (b0 b1 b2 b3 b4 : Value) :
    (((((w.setCell ⟨b, 0, none⟩ b0).setCell ⟨b, 1, none⟩ b1).setCell ⟨b, 2, none⟩ b2).setCell ⟨b, 3, none⟩ b3).setCell ⟨b, 4, none⟩ b4).heap[b]? = some (.cells #[b0, b1, b2, b3, b4] t (0, 0)) ∧
      Keep [b] w (((((w.setCell ⟨b, 0, none⟩ b0).setCell ⟨b, 1, none⟩ b1).setCell ⟨b, 2, none⟩ b2).setCell ⟨b, 3, none⟩ b3).setCell ⟨b, 4, none⟩ b4) := by
  have z1 := heap_setCell_same w b 0 _ _ b0 h
  have z2 := heap_setCell_same _ b 1 _ _ b1 z1
  have z3 := heap_setCell_same _ b 2 _ _ b2 z2
  have z4 := heap_setCell_same _ b 3 _ _ b3 z3
  have z5 := heap_setCell_same _ b 4 _ _ b4 z4
  exact ⟨by simpa using z5, ((((Keep.setCell _ _ (by simp)).trans (Keep.setCell _ _ (by simp))).trans (Keep.setCell _ _ (by simp))).trans (Keep.setCell _ _ (by simp))).trans (Keep.setCell _ _ (by simp))⟩

set_option maxRecDepth 100000 in
set_option maxHeartbeats 800000 in
theorem rgeth_far (x : Int) (w : World) (h : x < 0 ∨ 67108864 ≤ x) : Calls Tryz.prog 71 #[.int .i64 x] w fun e w' => e = .returned (.agg #[.int .i64 0, .int .i64 0, .int .i64 0, .bool false, .bool false]) ∧ Keep [] w w' := by
  have hx := heap_alloc_new w (.cells #[.int .i64 0, .int .i64 0, .int .i64 0, .bool false, .bool false] 97)
  have hK := Keep.alloc [] w (.cells #[.int .i64 0, .int .i64 0, .int .i64 0, .bool false, .bool false] 97)
  obtain ⟨⟨f0, f1, f2, f3, f4⟩, d0, d1, d2, d3, d4⟩ := five_free hx
  obtain ⟨z, hk⟩ := five_put hx (.int .i64 0) (.int .i64 0) (.int .i64 0) (.bool false) (.bool false)
  have hd : (x < 0 ∧ decide (x < 0) = true) ∨ (decide (x < 0) = false ∧ 67108864 ≤ x) := by
    by_cases h0 : x < 0
    · exact .inl ⟨h0, decide_eq_true h0⟩
    · exact .inr ⟨decide_eq_false h0, by omega⟩
  clear h
  rcases hd with ⟨h1, h2⟩ | ⟨h1, h2⟩
  all_goals
    go_enter Tryz.func71, Tryz.ntmps71
    go_upto_region 2 with fail
    generalize w.alloc (.cells #[.int .i64 0, .int .i64 0, .int .i64 0, .bool false, .bool false] 97) = w1 at *
    go_wp2_with fail
    refine bodyPost_ret (results_cell_row rfl _ _ w.heap.size 97 #[.int .i64 0, .int .i64 0, .int .i64 0, .bool false, .bool false] (0, 0) _ rfl z Tryz.underlying97 rfl (by kernel_rfl)) rfl ?_
    exact ⟨rfl, ((hK.mono (by simp)).trans hk).drop (by simp)⟩

set_option maxRecDepth 100000 in
set_option maxHeartbeats 800000 in
theorem rgeth_near_no (x k c l : Int) (f : Bool) (w : World) (h0 : 0 ≤ x) (h1 : x < 67108864) (ek : x % 8 = k) (ef : (x / 8 % 2 == 1) = f) (ec : x / 16 % 4096 = c) (el : x / 65536 = l) (hm : mayH k c l f = false) :
    Calls Tryz.prog 71 #[.int .i64 x] w fun e w' => e = .returned (.agg #[.int .i64 0, .int .i64 0, .int .i64 0, .bool false, .bool false]) ∧ Keep [] w w' := by
  have q0 : decide (x < 0) = false := decide_eq_false (by omega)
  have q1 : decide (67108864 ≤ x) = false := decide_eq_false (by omega)
  have HM := (show Hid (mayH k c l f = false) from hm)
  have HE := (show Hid (x % 8 = k ∧ (x / 8 % 2 == 1) = f ∧ x / 16 % 4096 = c ∧ x / 65536 = l) from ⟨ek, ef, ec, el⟩)
  clear hm ek ef ec el
  have hK1 := (Keep.alloc [] w (.cells #[.int .i64 0, .int .i64 0, .int .i64 0, .bool false, .bool false] 97)).trans (Keep.alloc [] (w.alloc (.cells #[.int .i64 0, .int .i64 0, .int .i64 0, .bool false, .bool false] 97)) (.cells #[.int .i64 k, .int .i64 c, .int .i64 l, .bool f] 68))
  have hx1 := (Keep.alloc [] (w.alloc (.cells #[.int .i64 0, .int .i64 0, .int .i64 0, .bool false, .bool false] 97)) (.cells #[.int .i64 k, .int .i64 c, .int .i64 l, .bool f] 68)).blk (heap_alloc_new w (.cells #[.int .i64 0, .int .i64 0, .int .i64 0, .bool false, .bool false] 97)) (by simp)
  have hx2 := second_block w (.cells #[.int .i64 0, .int .i64 0, .int .i64 0, .bool false, .bool false] 97) #[.int .i64 k, .int .i64 c, .int .i64 l, .bool f] 68
  go_enter Tryz.func71, Tryz.ntmps71
  go_upto_region 4 with fail
  rw [HE.out.1, HE.out.2.1, HE.out.2.2.1, HE.out.2.2.2]
  generalize (w.alloc (.cells #[.int .i64 0, .int .i64 0, .int .i64 0, .bool false, .bool false] 97)).alloc (.cells #[.int .i64 k, .int .i64 c, .int .i64 l, .bool f] 68) = w2 at *
  obtain ⟨bx, hbx⟩ : ∃ bx, w.heap.size = bx := ⟨_, rfl⟩
  rw [hbx] at hx1 hx2 ⊢
  obtain ⟨bz, hbz⟩ : ∃ b, bx + 1 = b := ⟨_, rfl⟩
  rw [hbz] at hx2 ⊢
  have HBX := (show Hid (w.heap.size = bx) from hbx)
  have hne : bx ≠ bz := by omega
  clear hbx hbz
  obtain ⟨c0, c1, c2, c3⟩ := four_cells hx2
  go_upto_region 5 with (first | (go_at_call 89; refine (rmayh_any k c l f _).mono ?_; rw [HM.out]; rintro e w3 ⟨rfl, hK2⟩; have hx3 := hK2.blk hx1 (by simp); obtain ⟨⟨f0, f1, f2, f3, f4⟩, d0, d1, d2, d3, d4⟩ := five_free hx3; have hx4 := hK2.blk hx2 (by simp); obtain ⟨g0, g1, g2, g3⟩ := four_cells hx4))
  go_wp2_with fail
  obtain ⟨z, hk4⟩ := five_put hx3 (.int .i64 0) (.int .i64 0) (.int .i64 0) (.bool false) (.bool false)
  refine bodyPost_ret (results_cell_row rfl _ _ bx 97 #[.int .i64 0, .int .i64 0, .int .i64 0, .bool false, .bool false] (0, 0) _ rfl z Tryz.underlying97 rfl (by kernel_rfl)) rfl ?_
  refine ⟨rfl, (((hK1.trans hK2).mono (T := [bx]) (by simp)).trans hk4).drop ?_⟩
  have := HBX.out
  simp; omega

set_option maxRecDepth 100000 in
set_option maxHeartbeats 800000 in
theorem rgeth_near_yes (x k c l : Int) (f : Bool) (w : World) (h0 : 0 ≤ x) (h1 : x < 67108864) (ek : x % 8 = k) (ef : (x / 8 % 2 == 1) = f) (ec : x / 16 % 4096 = c) (el : x / 65536 = l) (hm : mayH k c l f = true) :
    Calls Tryz.prog 71 #[.int .i64 x] w fun e w' => e = .returned (.agg #[.int .i64 k, .int .i64 c, .int .i64 l, .bool f, .bool true]) ∧ Keep [] w w' := by
  have q0 : decide (x < 0) = false := decide_eq_false (by omega)
  have q1 : decide (67108864 ≤ x) = false := decide_eq_false (by omega)
  have HM := (show Hid (mayH k c l f = true) from hm)
  have HE := (show Hid (x % 8 = k ∧ (x / 8 % 2 == 1) = f ∧ x / 16 % 4096 = c ∧ x / 65536 = l) from ⟨ek, ef, ec, el⟩)
  clear hm ek ef ec el
  have hK1 := (Keep.alloc [] w (.cells #[.int .i64 0, .int .i64 0, .int .i64 0, .bool false, .bool false] 97)).trans (Keep.alloc [] (w.alloc (.cells #[.int .i64 0, .int .i64 0, .int .i64 0, .bool false, .bool false] 97)) (.cells #[.int .i64 k, .int .i64 c, .int .i64 l, .bool f] 68))
  have hx1 := (Keep.alloc [] (w.alloc (.cells #[.int .i64 0, .int .i64 0, .int .i64 0, .bool false, .bool false] 97)) (.cells #[.int .i64 k, .int .i64 c, .int .i64 l, .bool f] 68)).blk (heap_alloc_new w (.cells #[.int .i64 0, .int .i64 0, .int .i64 0, .bool false, .bool false] 97)) (by simp)
  have hx2 := second_block w (.cells #[.int .i64 0, .int .i64 0, .int .i64 0, .bool false, .bool false] 97) #[.int .i64 k, .int .i64 c, .int .i64 l, .bool f] 68
  go_enter Tryz.func71, Tryz.ntmps71
  go_upto_region 4 with fail
  rw [HE.out.1, HE.out.2.1, HE.out.2.2.1, HE.out.2.2.2]
  generalize (w.alloc (.cells #[.int .i64 0, .int .i64 0, .int .i64 0, .bool false, .bool false] 97)).alloc (.cells #[.int .i64 k, .int .i64 c, .int .i64 l, .bool f] 68) = w2 at *
  obtain ⟨bx, hbx⟩ : ∃ bx, w.heap.size = bx := ⟨_, rfl⟩
  rw [hbx] at hx1 hx2 ⊢
  obtain ⟨bz, hbz⟩ : ∃ b, bx + 1 = b := ⟨_, rfl⟩
  rw [hbz] at hx2 ⊢
  have HBX := (show Hid (w.heap.size = bx) from hbx)
  have hne : bx ≠ bz := by omega
  clear hbx hbz
  obtain ⟨c0, c1, c2, c3⟩ := four_cells hx2
  go_upto_region 6 with (first | (go_at_call 89; refine (rmayh_any k c l f _).mono ?_; rw [HM.out]; rintro e w3 ⟨rfl, hK2⟩; have hx3 := hK2.blk hx1 (by simp); obtain ⟨⟨f0, f1, f2, f3, f4⟩, d0, d1, d2, d3, d4⟩ := five_free hx3; have hx4 := hK2.blk hx2 (by simp); obtain ⟨g0, g1, g2, g3⟩ := four_cells hx4))
  go_wp2_with fail
  obtain ⟨z, hk4⟩ := five_put hx3 (.int .i64 k) (.int .i64 c) (.int .i64 l) (.bool f) (.bool true)
  refine bodyPost_ret (results_cell_row rfl _ _ bx 97 #[.int .i64 k, .int .i64 c, .int .i64 l, .bool f, .bool true] (0, 0) _ rfl z Tryz.underlying97 rfl (by kernel_rfl)) rfl ?_
  refine ⟨rfl, (((hK1.trans hK2).mono (T := [bx]) (by simp)).trans hk4).drop ?_⟩
  have := HBX.out
  simp; omega

theorem rgeth_yes (x k c l : Int) (f : Bool) (w : World) (h : Word x k c l f) :
    Calls Tryz.prog 71 #[.int .i64 x] w fun e w' => e = .returned (.agg #[.int .i64 k, .int .i64 c, .int .i64 l, .bool f, .bool true]) ∧ Keep [] w w' := by
  obtain ⟨h1, h2, h3, h4, h5, h6⟩ := h.parts
  obtain ⟨p1, p2, p3, p4⟩ := ref_parts (show 0 ≤ x by omega)
  exact rgeth_near_yes x k c l f w (by omega) h2 (p1.trans h3) (p2.trans h6) (p3.trans h4) (p4.trans h5) h.1
theorem rgeth_no (x : Int) (w : World) (h : ∀ k c l f, ¬ Word x k c l f) :
    Calls Tryz.prog 71 #[.int .i64 x] w fun e w' => e = .returned (.agg #[.int .i64 0, .int .i64 0, .int .i64 0, .bool false, .bool false]) ∧ Keep [] w w' := by
  by_cases hx : x < 0 ∨ 67108864 ≤ x
  · exact rgeth_far x w hx
  · obtain ⟨p1, p2, p3, p4⟩ := ref_parts (show 0 ≤ x by omega)
    refine rgeth_near_no x _ _ _ _ w (by omega) (by omega) p1 p2 p3 p4 ?_
    rw [Bool.eq_false_iff]
    exact fun hm => h _ _ _ _ (word_of hm)

end Go.Proofs.YtgpidokklhjfdaaGreat

/-
  The document's own heap in memory: its block, its classes and its space; what its calls answer and leave.
-/
namespace Go.Proofs.YtgpidokklhjfdaaGreat
open Go.RowKit

/-- Block tb is a heap of the document whose classes lie at va; all its blocks are of F. -/
structure RTabAt (w : World) (tb mb : Nat) (va : Option Addr) (vc : Nat) (F : List Nat) (cs : List CV) : Prop where
  head : w.heap[tb]? = some (.cells #[.pointer (some ⟨mb, 0, none⟩), .slice va cs.length vc] 90 (0, 0))
  own : w.ownsRow 0 76 2 (.slice va cs.length vc) cs.length (flat cs)
  vF : ∀ a, va = some a → a.block ∈ F ∧ a.block ≠ tb
  tF : tb ∈ F
  each : ∀ (i : Nat) (c : CV), cs[i]? = some c → IntsAt w c.ao c.L ∧ (c.ao = none → c.cp = 0) ∧ c.L.length ≤ 1000000 ∧ (∀ a, c.ao = some a → a.block ∈ F ∧ a.block ≠ tb ∧ ∀ b, va = some b → b.block ≠ a.block)
  lt : ∀ k, k ∈ F → k < w.heap.size
def IsRTab (w : World) (tb mb : Nat) (F : List Nat) (ds : List (Int × List Int)) : Prop := ∃ va vc cs, RTabAt w tb mb va vc F cs ∧ ds = cs.map CV.d

theorem RTabAt.keep {S F : List Nat} {w w' : World} {tb mb vc : Nat} {va : Option Addr} {cs : List CV} (h : RTabAt w tb mb va vc F cs) (K : Keep S w w') (hS : ∀ k, k ∈ F → k ∉ S) : RTabAt w' tb mb va vc F cs :=
  { h with
    head := K.blk h.head (hS _ h.tF)
    own := by
      refine ⟨h.own.1, ?_⟩
      rcases h.own.2 with h1 | ⟨g, cap, cur, h1, h2, h3, h4⟩
      · exact .inl h1
      · refine .inr ⟨g, cap, cur, h1, h2, K.blk h3 (hS _ ?_), h4⟩
        cases h1; exact (h.vF _ rfl).1
    each := fun i c hc => by
      obtain ⟨h1, h2, h3, h4⟩ := h.each i c hc
      exact ⟨h1.keep K (fun _ a e => hS _ (h4 a e).1), h2, h3, h4⟩
    lt := fun k hk => Nat.lt_of_lt_of_le (h.lt k hk) K.size }
theorem IsRTab.keep {S F : List Nat} {w w' : World} {tb mb : Nat} {ds : List (Int × List Int)} (h : IsRTab w tb mb F ds) (K : Keep S w w') (hS : ∀ k, k ∈ F → k ∉ S) : IsRTab w' tb mb F ds := by
  obtain ⟨va, vc, cs, h, e⟩ := h; exact ⟨va, vc, cs, h.keep K hS, e⟩
theorem RTabAt.cell {F : List Nat} {w : World} {tb mb vc : Nat} {va : Option Addr} {cs : List CV} (h : RTabAt w tb mb va vc F cs) : w.cell? ⟨tb, 1, none⟩ = some (.slice va cs.length vc) := by simp [World.cell?, h.head]
theorem RTabAt.free {F : List Nat} {w : World} {tb mb vc : Nat} {va : Option Addr} {cs : List CV} (h : RTabAt w tb mb va vc F cs) : w.frozen? ⟨tb, 1, none⟩ = false := by simp [World.frozen?, h.head]

/-- One class more. -/
theorem RTabAt.added {F : List Nat} {w w4 : World} {tb mb vc g cap B lc : Nat} {va la : Option Addr} {cs : List CV} {f : Int} {L : List Int} {o : Obj} (h : RTabAt w tb mb va vc F cs) (hB : ∀ k, k ∈ F → k < B)
    (hI : IntsAt w la L) (hlc : la = none → lc = 0) (hL : L.length ≤ 1000000) (hla : ∀ a, la = some a → B ≤ a.block ∧ a.block < w.heap.size) (hBw : B ≤ w.heap.size)
    (hown : w4.ownsRow 0 76 2 (.slice (some ⟨g, 0, none⟩) (cs.length + 1) cap) (cs.length + 1) (flat cs ++ [.int .i64 f, .slice la L.length lc]))
    (hg : (w.alloc o).grownBy w4 (Value.slice va cs.length vc).ownBlock) (hat : (Value.slice va cs.length vc).ownBlock = some g ∨ g = w.heap.size + 1) (hlt : g < w4.heap.size) :
    RTabAt (w4.setCell ⟨tb, 1, none⟩ (.slice (some ⟨g, 0, none⟩) (cs.length + 1) cap)) tb mb (some ⟨g, 0, none⟩) cap (g :: (la.toList.map (·.block) ++ F)) (cs ++ [⟨f, la, lc, L⟩]) ∧
      Keep F w (w4.setCell ⟨tb, 1, none⟩ (.slice (some ⟨g, 0, none⟩) (cs.length + 1) cap)) := by
  have htb := hB _ h.tF
  have own : ∀ k, (Value.slice va cs.length vc).ownBlock = some k → k ∈ F ∧ k ≠ tb ∧ ∃ a, va = some a ∧ a.block = k := by
    intro k hk
    cases va with
    | none => simp [Value.ownBlock] at hk
    | some a => simp [Value.ownBlock] at hk; subst hk; exact ⟨(h.vF a rfl).1, (h.vF a rfl).2, a, rfl, rfl⟩
  have gtb : g ≠ tb := by
    rcases hat with e | e
    · exact (own g e).2.1
    · omega
  have K1 : Keep F w w4 := ⟨hg.os, hg.tape, hg.output, Nat.le_trans (by simp) hg.size, fun k hk hS =>
    (hg.block k (by simp; omega) (fun e => hS (own k e.symm).1)).trans (Below.heap_alloc _ _ _ hk)⟩
  have K0 : Keep [] w (w.alloc o) := Keep.alloc [] w o
  have K2 : Keep [tb] w4 (w4.setCell ⟨tb, 1, none⟩ (.slice (some ⟨g, 0, none⟩) (cs.length + 1) cap)) := Keep.setCell _ _ (by simp)
  have ints : ∀ (ao : Option Addr) (M : List Int), IntsAt w ao M → (∀ a, ao = some a → a.block ≠ tb ∧ (Value.slice va cs.length vc).ownBlock ≠ some a.block) → IntsAt (w4.setCell ⟨tb, 1, none⟩ (.slice (some ⟨g, 0, none⟩) (cs.length + 1) cap)) ao M := by
    intro ao M hM ha
    refine ⟨fun h0 => ?_, hM.low, hM.high⟩
    obtain ⟨b, off, rfl, hb, hc⟩ := hM.cells h0
    obtain ⟨h1, h2⟩ := ha _ rfl
    have e : (w4.setCell ⟨tb, 1, none⟩ (.slice (some ⟨g, 0, none⟩) (cs.length + 1) cap)).heap[b]? = w.heap[b]? :=
      (K2.block b (Nat.lt_of_lt_of_le hb K1.size) (by simpa using h1)).trans ((hg.block b (by simp; omega) (fun e => h2 e.symm)).trans (Below.heap_alloc _ _ _ hb))
    exact ⟨b, off, rfl, Nat.lt_of_lt_of_le (Nat.lt_of_lt_of_le hb K1.size) K2.size, fun i hi => (World.cell?_of_block (w := w) e).trans (hc i hi)⟩
  have far : ∀ k, B ≤ k → (Value.slice va cs.length vc).ownBlock ≠ some k := fun k hk e => by have := hB _ (own k e).1; omega
  have hl : (cs ++ [(⟨f, la, lc, L⟩ : CV)]).length = cs.length + 1 := by simp
  have htbw : w4.heap[tb]? = some (.cells #[.pointer (some ⟨mb, 0, none⟩), .slice va cs.length vc] 90 (0, 0)) := by
    rw [← h.head]
    exact (hg.block tb (by simp; omega) (fun e => (own tb e.symm).2.1 rfl)).trans (Below.heap_alloc _ _ _ (by omega))
  refine ⟨⟨?_, ?_, ?_, ?_, ?_, ?_⟩, K1.trans (K2.mono (by simpa using h.tF))⟩
  · rw [hl]
    have := heap_setCell_same w4 tb 1 _ _ (.slice (some ⟨g, 0, none⟩) (cs.length + 1) cap) htbw
    simpa using this
  · rw [hl, flat_app, flat_one]
    refine ⟨hown.1, ?_⟩
    rcases hown.2 with ⟨h1, _⟩ | ⟨g', cap', cur, h1, h2, h3, h4⟩
    · cases h1
    · cases h1
      exact .inr ⟨g, cap, cur, rfl, h2, K2.blk h3 (by simpa using gtb), h4⟩
  · intro a e; cases e; exact ⟨by simp, gtb⟩
  · simp [h.tF]
  · intro i c hc
    rcases Nat.lt_trichotomy i cs.length with hi | hi | hi
    · rw [List.getElem?_append_left hi] at hc
      obtain ⟨h1, h2, h3, h4⟩ := h.each i c hc
      have h5 : ∀ a, c.ao = some a → (Value.slice va cs.length vc).ownBlock ≠ some a.block := fun a e e' => by
        obtain ⟨b, e1, e2⟩ := (own _ e').2.2
        exact (h4 a e).2.2 b e1 e2
      refine ⟨ints _ _ h1 (fun a e => ⟨(h4 a e).2.1, h5 a e⟩), h2, h3, fun a e => ⟨by simp [(h4 a e).1], (h4 a e).2.1, fun b eb => ?_⟩⟩
      cases eb
      show g ≠ a.block
      rcases hat with e' | e'
      · intro eg; exact h5 a e (by rw [e', eg])
      · have := hB _ (h4 a e).1; omega
    · subst hi
      have : c = ⟨f, la, lc, L⟩ := by simpa using hc.symm
      subst this
      refine ⟨ints _ _ hI (fun a e => ⟨by have := (hla a e).1; omega, far _ (hla a e).1⟩), hlc, hL, fun a e => ⟨?_, by have := (hla a e).1; omega, fun b eb => ?_⟩⟩
      · have e' : la = some a := e
        simp [e']
      · cases eb
        show g ≠ a.block
        have := hla a e
        rcases hat with e' | e'
        · intro eg; exact far a.block this.1 (by rw [e', eg])
        · omega
    · rw [List.getElem?_eq_none (by simp; omega)] at hc; cases hc
  · intro k hk
    have hs := K2.size
    have hs1 := K1.size
    simp at hk
    rcases hk with rfl | ⟨a, e, rfl⟩ | hk
    · omega
    · have := (hla a e).2; omega
    · have := hB k hk; omega
theorem IsRTab.lt {F : List Nat} {w : World} {tb mb : Nat} {ds : List (Int × List Int)} (h : IsRTab w tb mb F ds) : ∀ k, k ∈ F → k < w.heap.size := by
  obtain ⟨va, vc, cs, h, e⟩ := h; exact h.lt
theorem IsRTab.mem {F : List Nat} {w : World} {tb mb : Nat} {ds : List (Int × List Int)} (h : IsRTab w tb mb F ds) : tb ∈ F := by
  obtain ⟨va, vc, cs, h, e⟩ := h; exact h.tF


def rspaceA (mb : Nat) (ws : List Int) (kd : List PK) : Asn where
  at' w F := IsRef w mb F ws kd
  keep := fun h K hS => h.keep K hS
  lt := fun h => h.lt
def rtabA (hb mb : Nat) (ds : List (Int × List Int)) : Asn where
  at' w F := IsRTab w hb mb F ds
  keep := fun h K hS => h.keep K hS
  lt := fun h => h.lt
def rrawA (hb mb : Nat) (ws : List Int) (kd : List PK) (ds : List (Int × List Int)) : Asn := (rtabA hb mb ds).star (rspaceA mb ws kd)
/-- Block hb is a heap of the document. -/
def rheapA (hb : Nat) (ws : List Int) (kd : List PK) (ds : List (Int × List Int)) : Asn where
  at' w F := (∃ mb, (rrawA hb mb ws kd ds).at' w F) ∧ Fine ws kd ds
  keep := fun h K hS => by
    obtain ⟨⟨mb, h1⟩, h2⟩ := h
    exact ⟨⟨mb, (rrawA hb mb ws kd ds).keep h1 K hS⟩, h2⟩
  lt := fun h => by
    obtain ⟨⟨mb, h1⟩, h2⟩ := h
    exact (rrawA hb mb ws kd ds).lt h1
section
variable {w0 w : World} {F0 : List Nat} {hb mb : Nat} {ws : List Int} {kd : List PK} {ds : List (Int × List Int)}
theorem Has.rfine (h : Has w0 F0 (rheapA hb ws kd ds) w) : Fine ws kd ds := h.fact (fun _ h => h.2)
theorem Has.rraw (h : Has w0 F0 (rheapA hb ws kd ds) w) : ∃ mb, Has w0 F0 (rrawA hb mb ws kd ds) w := by
  obtain ⟨F, ⟨⟨mb, h1⟩, h2⟩, u⟩ := h
  exact ⟨mb, F, h1, u⟩
theorem Has.rheap (h : Has w0 F0 (rrawA hb mb ws kd ds) w) (hf : Fine ws kd ds) : Has w0 F0 (rheapA hb ws kd ds) w := h.map (fun _ h => ⟨⟨mb, h⟩, hf⟩)
theorem Has.rspace (h : Has w0 F0 (rrawA hb mb ws kd ds) w) : ∃ F, IsRef w mb F ws kd := h.fact (fun _ h => by obtain ⟨F1, F2, _, h1, h2, _⟩ := h; exact ⟨F2, h2⟩)
theorem Has.rtab (h : Has w0 F0 (rrawA hb mb ws kd ds) w) : ∃ F, IsRTab w hb mb F ds := h.fact (fun _ h => by obtain ⟨F1, F2, _, h1, h2, _⟩ := h; exact ⟨F1, h1⟩)
/-- The cells that are read: the space, the classes, the words. -/
theorem Has.rcells (h : Has w0 F0 (rrawA hb mb ws kd ds) w) : w.cell? ⟨hb, 0, none⟩ = some (.pointer (some ⟨mb, 0, none⟩)) ∧ (∃ va vc, w.cell? ⟨hb, 1, none⟩ = some (.slice va ds.length vc)) ∧
    (∃ gw, w.cell? ⟨mb, 0, none⟩ = some (.slice (some ⟨gw, 0, none⟩) (64 * kd.length) (64 * kd.length)) ∧ ∀ i, i < 64 * kd.length → w.cell? ⟨gw, i, none⟩ = some (.int .i64 (ws[i]?.getD 0)) ∧ w.frozen? ⟨gw, i, none⟩ = false) ∧ ws.length = 64 * kd.length := by
  refine h.fact (fun _ h => ?_)
  obtain ⟨F1, F2, _, ⟨va, vc, cs, h1, rfl⟩, ⟨L, h2⟩, _⟩ := h
  refine ⟨by simp [World.cell?, h1.head], ⟨va, vc, by rw [List.length_map]; exact h1.cell⟩, ⟨L.gw, h2.c0, fun i hi => ⟨h2.cw hi, h2.rowW.free i⟩⟩, h2.lw⟩
/-- A class, as it is read. -/
theorem Has.rclass (h : Has w0 F0 (rrawA hb mb ws kd ds) w) {i : Nat} {l : Int} {L : List Int} (hi : ds[i]? = some (l, L)) : ∃ g vc ao cp, w.cell? ⟨hb, 1, none⟩ = some (.slice (some ⟨g, 0, none⟩) ds.length vc) ∧ w.cell? ⟨g, i * 2, none⟩ = some (.int .i64 l) ∧ w.cell? ⟨g, i * 2 + 1, none⟩ = some (.slice ao L.length cp) ∧ IntsAt w ao L ∧ (ao = none → cp = 0) := by
  refine h.fact (fun _ h => ?_)
  obtain ⟨F1, F2, _, ⟨va, vc, cs, h1, rfl⟩, h2, _⟩ := h
  rw [List.getElem?_map] at hi
  cases hc : cs[i]? with
  | none => rw [hc] at hi; cases hi
  | some c =>
    rw [hc] at hi
    obtain ⟨cf, ca, cp, cL⟩ := c
    simp [CV.d] at hi
    obtain ⟨rfl, rfl⟩ := hi
    have hin : i < cs.length := by
      rcases Nat.lt_or_ge i cs.length with h | h
      · exact h
      · rw [List.getElem?_eq_none h] at hc; cases hc
    obtain ⟨hI, hcc, _⟩ := h1.each i _ hc
    obtain ⟨q0, q1⟩ := flat_get0 cs i _ hc
    have hcell := h1.cell
    rcases h1.own.2 with ⟨_, h0⟩ | ⟨g, cap, cur, ev, _, hg, _, hcap, hsz, htake⟩
    · omega
    cases ev
    have hcu : ∀ j u, (flat cs)[j]? = some u → w.cell? ⟨g, j, none⟩ = some u := by
      intro j u hu
      have hj : j < cs.length * 2 := by
        rcases Nat.lt_or_ge j (cs.length * 2) with h | h
        · exact h
        · rw [List.getElem?_eq_none (by rw [flat_length]; exact h)] at hu; cases hu
      rw [← htake, List.getElem?_take, if_pos hj] at hu
      have hu' : cur[j]? = some u := by simpa using hu
      simp [World.cell?, hg, hu']
    exact ⟨g, _, ca, cp, by rw [List.length_map]; exact hcell, hcu _ _ q0, hcu _ _ q1, hI, hcc⟩
/-- A word is stored. -/
theorem Has.rset (h : Has w0 F0 (rrawA hb mb ws kd ds) w) {gw n : Nat} (hc : w.cell? ⟨mb, 0, none⟩ = some (.slice (some ⟨gw, 0, none⟩) n n)) (i : Nat) (x : Int) : Has w0 F0 (rrawA hb mb (ws.set i x) kd ds) (w.setCell ⟨gw, i, none⟩ (.int .i64 x)) := by
  refine (Has.left h.comm (A' := rspaceA mb (ws.set i x) kd) (fun F e => ?_)).comm
  obtain ⟨L, h2⟩ := e
  have e := h2.c0
  rw [hc] at e
  have e2 : gw = L.gw := by injection e with e; injection e with e; injection e with e; injection e
  subst e2
  obtain ⟨f0, f1, f2, f3, f4⟩ := h2.f
  exact ⟨F, ⟨L, h2.setW i x⟩, Keep.setCell _ _ f1, fun k e => .inl e⟩
end

section
variable {w0 : World} {F0 : List Nat} {hb mb : Nat} {ws : List Int} {kd : List PK} {ds : List (Int × List Int)} (w : World)
theorem yalloc (n N E : Int) (ws' : List Int) (kd' : List PK) (h : Has w0 F0 (rrawA hb mb ws kd ds) w) (hw : WF kd) (hr : AllocT kd ws n N E ws' kd') :
    Calls Tryz.prog 62 #[.pointer (some ⟨mb, 0, none⟩), .int .i64 n] w fun e w' => e = .returned (.agg #[.int .i64 N, .int .i64 E]) ∧ Has w0 F0 (rrawA hb mb ws' kd' ds) w' := by
  cases hr with
  | arg hb =>
    refine (ralloc_arg mb n w hb).mono ?_
    rintro e w' ⟨rfl, hK⟩
    exact ⟨rfl, h.keep0 hK⟩
  | no hb hr =>
    obtain ⟨F, hS⟩ := h.rspace
    refine (ralloc_no mb n F ws kd w hS hw hr).mono ?_
    rintro e w' ⟨rfl, hK⟩
    exact ⟨rfl, h.keep0 hK⟩
  | yes a b kd' hr hb =>
    obtain ⟨F, ⟨F1, F2, hF, h1, h2, hd⟩, u⟩ := h
    refine (ralloc_yes mb a b n F2 ws kd kd' w h2 hw hr hb).mono ?_
    rintro e w' ⟨F', rfl, hS, hK, hG⟩
    obtain ⟨G2, g3, g4⟩ := star_right (B' := rspaceA mb (fill0 ws a b) kd') hF hd h1 hS ⟨hK, hG⟩
    exact ⟨rfl, G2, g3, u.trans g4⟩
theorem yfind (a : Int) (h : Has w0 F0 (rrawA hb mb ws kd ds) w) (hw : WF kd) :
    Calls Tryz.prog 70 #[.pointer (some ⟨mb, 0, none⟩), .int .i64 a] w fun e w' => e = .returned (foundA (findI kd a)) ∧ Keep [] w w' := by
  obtain ⟨F, hS⟩ := h.rspace
  exact rfind_any mb F a ws kd w hS hw
theorem yeach (h : Has w0 F0 (rrawA hb mb ws kd ds) w) (hw : WF kd) :
    Calls Tryz.prog 48 #[.pointer (some ⟨mb, 0, none⟩)] w fun e w' => ∃ la lc, e = .returned (.slice la (eachK kd).length lc) ∧ IntsAt w' la (eachK kd) ∧ Keep [] w w' := by
  obtain ⟨F, hS⟩ := h.rspace
  refine (reach_any mb F ws kd w hS hw).mono ?_
  rintro e w' ⟨v, rfl, ⟨la, lc, rfl, h1, h2, h3⟩, hK⟩
  exact ⟨la, lc, rfl, h1, hK⟩
end

end Go.Proofs.YtgpidokklhjfdaaGreat

/-
  Alloc of package space, whatever it is given.
-/
namespace Go.Proofs.YtgpidokklhjfdaaGreat
open Go.RowKit

set_option maxHeartbeats 2000000 in
/-- A page of the class has room, told by what looking for it answers. -/
theorem tks_yes (sb c p i : Nat) (xs : List Bool) (F : List Nat) (ws : List Int) (ts : List Bool) (kd : List PK) (w : World) (hc : c < 5)
    (hroom : Calls Tryz.prog 112 #[.pointer (some ⟨sb, 0, none⟩), .int .i64 c] w fun e w' => ∃ L F1, e = .returned (.tuple #[.int .i64 p, .int .i64 0]) ∧ SpAt w' sb L F1 ws ts kd ∧ Keep F w w' ∧ Grows w F F1)
    (hk : kat kd p = .small c xs) (hx : xs.length = roomOf c) (hi : nextR xs 0 false = i) (hil : i < xs.length) (hp2 : p ≤ 256) :
    Calls Tryz.prog 106 #[.pointer (some ⟨sb, 0, none⟩), .int .i64 c] w fun e w' => ∃ L F1, e = .returned (.tuple #[.int .i64 ((64 * p + i * sz c : Nat) : Int), .int .i64 0]) ∧ SpAt w' sb L F1 ws ts (kd.set p (.small c (xs.set i true))) ∧ Keep F w w' ∧ Grows w F F1 := by
  obtain ⟨z1, z2, z3, z4, z5, z6, z7⟩ := sz_facts c hc
  have HR := (show Hid (Calls Tryz.prog 112 #[.pointer (some ⟨sb, 0, none⟩), .int .i64 c] w fun e w' => ∃ L F1, e = .returned (.tuple #[.int .i64 p, .int .i64 0]) ∧ SpAt w' sb L F1 ws ts kd ∧ Keep F w w' ∧ Grows w F F1) from hroom)
  have HK := (show Hid (kat kd p = .small c xs) from hk)
  have HPL := (show Hid (p < kd.length) from kat_lt kd p (by rw [hk]; simp))
  have HI := (show Hid (nextR xs 0 false = i) from hi)
  have HIL := (show Hid (i < xs.length) from hil)
  have HZ := (show Hid (wordsOf c = sz c) from z1)
  obtain ⟨n, hn⟩ : ∃ n, kd.length = n := ⟨_, rfl⟩
  have HN := (show Hid (kd.length = n) from hn)
  have hpn : p < n := by rw [← hn]; exact HPL.out
  obtain ⟨s, hs⟩ : ∃ s, sz c = s := ⟨_, rfl⟩
  have HSZ := (show Hid (sz c = s) from hs)
  rw [hs] at z2 z4 z3 ⊢
  have hi32 : i ≤ 32 := by omega
  obtain ⟨y, hy⟩ : ∃ y : Nat, i * s = y := ⟨_, rfl⟩
  have hyb : y ≤ 32 * 32 := by rw [← hy]; exact Nat.mul_le_mul hi32 z4
  have hyi : (i : Int) * (s : Int) = y := by rw [← hy]; exact (Int.natCast_mul i s).symm
  rw [hy]
  have hyw : IntKind.i64.wrap ((i : Int) * s) = y := by rw [hyi]; exact IntWalk.i64_in _ (by omega)
  have HA := (show Hid ((p : Int) * 64 + y = ((64 * p + y : Nat) : Int)) from by show _ = _; omega)
  clear hroom hk hi hil hn hs hx z1 z2 z3 z5 z6 z7 hy
  go_enter Tryz.func106, Tryz.ntmps106
  go_wp2_with fail
  refine HR.out.mono ?_
  rintro e w1 ⟨L, F1, rfl, hS1, hK1, hG1⟩
  have hc2 := hS1.c2
  have hcs := hS1.cs HPL.out
  have hP := hS1.page p c xs HK.out
  rw [HK.out] at hcs
  rw [HN.out] at hc2
  rw [HZ.out, HSZ.out] at hP
  have hcs' : w1.cell? ⟨L.gs, p, none⟩ = some (.pointer (some ⟨(L.P p).1, 0, none⟩)) := hcs
  have HS1 := (show Hid (SpAt w1 sb L F1 ws ts kd) from hS1)
  have HG1 := (show Hid (Grows w F F1) from hG1)
  have hsz := hK1.size
  obtain ⟨q1, hq1⟩ : ∃ q1, (L.P p).1 = q1 := ⟨_, rfl⟩
  obtain ⟨q2, hq2⟩ : ∃ q2, (L.P p).2.1 = q2 := ⟨_, rfl⟩
  obtain ⟨q3, hq3⟩ : ∃ q3, (L.P p).2.2 = q3 := ⟨_, rfl⟩
  have HQ := (show Hid ((L.P p).1 = q1 ∧ (L.P p).2.1 = q2 ∧ (L.P p).2.2 = q3) from ⟨hq1, hq2, hq3⟩)
  rw [hq1] at hcs'
  rw [hq1, hq2, hq3] at hP
  clear hS1 hcs hG1 hq1 hq2 hq3
  go_wp2_with (first | (go_at_call 113; refine (ktake_yes q1 q2 q3 i _ _ _ hP HI.out HIL.out).mono ?_; rintro e w3 ⟨rfl, hP3, hK3⟩; have hq3 := HQ.out; have hS3 := HS1.out.inner HK.out (by rw [hq3.2.2]; exact hK3) (by rw [hq3.1, hq3.2.1, hq3.2.2, HZ.out, HSZ.out]; exact hP3); have hc23 := hS3.c2; rw [List.length_set, HN.out] at hc23; have hcs3 := hS3.cs (p := p) (by rw [List.length_set]; exact HPL.out); rw [kat_set_same _ _ _ HPL.out] at hcs3; have hcs4 : w3.cell? ⟨L.gs, p, none⟩ = some (.pointer (some ⟨(L.P p).1, 0, none⟩)) := hcs3; rw [hq3.1] at hcs4; clear hcs3) | (go_at_call 100; refine (kwords_any q1 q2 q3 _ _ _ hP3).mono ?_; rintro e w' ⟨rfl, rfl⟩))
  have hq3F : q3 ∈ F1 := by have := (HS1.out.fp p c xs HK.out).2.2; rw [hq3.2.2] at this; exact this
  have HK4 := (show Hid (Keep F w w3) from ((hK1.mono (T := q3 :: F) (fun k e => List.mem_cons_of_mem _ e)).trans (hK3.mono (by simp))).drop (fun k e hlt => by
    rcases List.mem_cons.1 e with rfl | e
    · rcases HG1.out _ hq3F with h | h
      · exact h
      · omega
    · exact e))
  have HS3 := (show Hid (SpAt w3 sb L F1 ws ts (kd.set p (.small c (xs.set i true)))) from hS3)
  clear hS3 hK3 hK1 hP3
  all_goals
    go_ret2
    exact ⟨L, F1, by rw [← HA.out]; rfl, HS3.out, HK4.out, HG1.out⟩
set_option maxHeartbeats 1000000 in
theorem tks_no (sb c : Nat) (w : World)
    (hroom : Calls Tryz.prog 112 #[.pointer (some ⟨sb, 0, none⟩), .int .i64 c] w fun e w' => e = .returned (.tuple #[.int .i64 0, .int .i64 3]) ∧ Keep [] w w') :
    Calls Tryz.prog 106 #[.pointer (some ⟨sb, 0, none⟩), .int .i64 c] w fun e w' => e = .returned (.tuple #[.int .i64 0, .int .i64 3]) ∧ Keep [] w w' := by
  have HR := (show Hid (Calls Tryz.prog 112 #[.pointer (some ⟨sb, 0, none⟩), .int .i64 c] w fun e w' => e = .returned (.tuple #[.int .i64 0, .int .i64 3]) ∧ Keep [] w w') from hroom)
  clear hroom
  go_enter Tryz.func106, Tryz.ntmps106
  go_wp2_with (go_at_call 112; refine HR.out.mono ?_; rintro e w1 ⟨rfl, hK1⟩)
  go_ret2
  exact ⟨rfl, hK1⟩

set_option maxHeartbeats 1000000 in
theorem tkl_no (sb k : Nat) (L : Lay) (F : List Nat) (ws : List Int) (ts : List Bool) (kd : List PK) (w : World) (h : SpAt w sb L F ws ts kd) (hk : 1 ≤ k) (hk2 : k ≤ 16) (hr : runR ts 0 k = -1) :
    Calls Tryz.prog 107 #[.pointer (some ⟨sb, 0, none⟩), .int .i64 k] w fun e w' => e = .returned (.tuple #[.int .i64 0, .int .i64 3]) ∧ Keep [] w w' := by
  have hc1 := h.c1
  have hP := h.pages
  have HR := (show Hid (runR ts 0 k = -1) from hr)
  clear h hr
  go_enter Tryz.func107, Tryz.ntmps107
  go_wp2_with (go_at_call 114; refine (ptake_no L.pb L.b L.g k ts _ hP hk (by omega) HR.out).mono ?_; rintro e w' ⟨rfl, rfl⟩)
  go_ret2
  exact ⟨rfl, Keep.refl _ _⟩
set_option maxHeartbeats 2000000 in
theorem tkl_yes (sb k p : Nat) (L : Lay) (F : List Nat) (ws : List Int) (kd : List PK) (w : World) (h : SpAt w sb L F ws (takenL kd) kd) (hk : 1 ≤ k) (hk2 : k ≤ 16) (hr : runR (takenL kd) 0 k = p) (hcl : Clear (takenL kd) p k) (hn2 : kd.length ≤ 256) :
    Calls Tryz.prog 107 #[.pointer (some ⟨sb, 0, none⟩), .int .i64 k] w fun e w' => ∃ L F1, e = .returned (.tuple #[.int .i64 ((64 * p : Nat) : Int), .int .i64 0]) ∧ SpAt w' sb L F1 ws (takenL (putParts kd p k)) (putParts kd p k) ∧ Keep F w w' ∧ Grows w F F1 := by
  obtain ⟨hpl, hfree⟩ := clear_free hcl
  have HT := (show Hid (putR (takenL kd) p k true = takenL (putParts kd p k)) from (taken_put kd p k hpl).symm)
  have HB := (show Hid (bigL (putParts kd p k) = (bigL kd).set p k) from big_put kd p k hk hcl)
  have HS := (show Hid (∀ q, kat (putParts kd p k) q = kat kd q ∨ (∀ c xs, kat (putParts kd p k) q ≠ .small c xs) ∧ (∀ c xs, kat kd q ≠ .small c xs)) from fun q => by
    rw [putParts_at kd p k q hpl]
    by_cases e : p ≤ q ∧ q < p + k
    · right; rw [if_pos e, hfree q e.1 e.2]; simp
    · left; rw [if_neg e])
  have HL := (show Hid (p < kd.length) from by show _ < _; omega)
  have hc1 := h.c1
  have hP := h.pages
  have HR := (show Hid (runR (takenL kd) 0 k = p) from hr)
  have HC := (show Hid (Clear (takenL kd) p k) from hcl)
  obtain ⟨n, hn⟩ : ∃ n, kd.length = n := ⟨_, rfl⟩
  have HN := (show Hid (kd.length = n) from hn)
  have hpn : p < n := by omega
  rw [hn] at hn2
  have H := (show Hid (SpAt w sb L F ws (takenL kd) kd) from h)
  have HA := (show Hid ((p : Int) * 64 = ((64 * p : Nat) : Int)) from by show _ = _; omega)
  clear hpl hfree hr hcl h hn
  go_enter Tryz.func107, Tryz.ntmps107
  go_wp2_with (first | (go_at_call 114; refine (ptake_yes L.pb L.b L.g k p _ _ hP hk HR.out HC.out.1).mono ?_; rintro e w1 ⟨rfl, hP1, hK1⟩; have hS1 := H.out.turn hK1 hP1; rw [HT.out] at hS1; have hc3 := hS1.c3; rw [HN.out] at hc3; have hcl := hS1.cl HL.out; have hfl := hS1.fl p; have HS2 := (show Hid (SpAt (w1.setCell ⟨L.gl, p, none⟩ (.int .i64 (k : Int))) sb L F ws (takenL (putParts kd p k)) (putParts kd p k)) from hS1.larger (putParts_length kd p k) HB.out HS.out); have f := hS1.f; have HK2 := (show Hid (Keep F w (w1.setCell ⟨L.gl, p, none⟩ (.int .i64 (k : Int)))) from (hK1.mono (fun x e => by simp at e; subst e; exact f.2.2.2.2.2.1)).trans (Keep.setCell _ _ f.2.2.2.2.2.2.2)); clear hS1 hP1 hK1 f))
  go_ret2
  exact ⟨L, F, by rw [← HA.out]; rfl, HS2.out, HK2.out, Grows.refl _ _⟩

set_option maxHeartbeats 1000000 in
theorem take_small (sb c : Nat) (n : Int) (w : World) (v1 v2 : Int) (Q : World → Prop) (hc : classI n = c) (hc5 : c < 5)
    (ht : ∀ w', Keep [] w w' → Calls Tryz.prog 106 #[.pointer (some ⟨sb, 0, none⟩), .int .i64 c] w' fun e w'' => e = .returned (.tuple #[.int .i64 v1, .int .i64 v2]) ∧ Q w'') :
    Calls Tryz.prog 85 #[.pointer (some ⟨sb, 0, none⟩), .int .i64 n] w fun e w' => e = .returned (.tuple #[.int .i64 v1, .int .i64 v2]) ∧ Q w' := by
  have HC := (show Hid (classI n = c) from hc)
  have HT := (show Hid (∀ w', Keep [] w w' → Calls Tryz.prog 106 #[.pointer (some ⟨sb, 0, none⟩), .int .i64 c] w' fun e w'' => e = .returned (.tuple #[.int .i64 v1, .int .i64 v2]) ∧ Q w'') from ht)
  have hd : decide ((0 : Int) ≤ (c : Int)) = true := by rw [decide_eq_true_iff]; omega
  clear hc ht
  go_enter Tryz.func85, Tryz.ntmps85
  go_wp2_with (first | (go_at_call 103; refine (class_any _ _).mono ?_; rw [HC.out]; rintro e w1 ⟨rfl, hK1⟩) | (go_at_call 106; refine (HT.out _ hK1).mono ?_; rintro e w3 ⟨rfl, hQ⟩))
  go_ret2
  exact ⟨rfl, hQ⟩
set_option maxHeartbeats 1000000 in
theorem take_large (sb k : Nat) (n : Int) (w : World) (v1 v2 : Int) (Q : World → Prop) (hc : classI n = -1) (hk : pagesI n = k)
    (ht : ∀ w', Keep [] w w' → Calls Tryz.prog 107 #[.pointer (some ⟨sb, 0, none⟩), .int .i64 k] w' fun e w'' => e = .returned (.tuple #[.int .i64 v1, .int .i64 v2]) ∧ Q w'') :
    Calls Tryz.prog 85 #[.pointer (some ⟨sb, 0, none⟩), .int .i64 n] w fun e w' => e = .returned (.tuple #[.int .i64 v1, .int .i64 v2]) ∧ Q w' := by
  have HC := (show Hid (classI n = -1) from hc)
  have HP := (show Hid (pagesI n = k) from hk)
  have HT := (show Hid (∀ w', Keep [] w w' → Calls Tryz.prog 107 #[.pointer (some ⟨sb, 0, none⟩), .int .i64 k] w' fun e w'' => e = .returned (.tuple #[.int .i64 v1, .int .i64 v2]) ∧ Q w'') from ht)
  clear hc hk ht
  go_enter Tryz.func85, Tryz.ntmps85
  go_wp2_with (first | (go_at_call 103; refine (class_any _ _).mono ?_; rw [HC.out]; rintro e w1 ⟨rfl, hK1⟩) | (go_at_call 105; refine (pages_any _ _).mono ?_; rw [HP.out]; rintro e w2 ⟨rfl, hK2⟩) | (go_at_call 107; refine (HT.out _ (hK1.trans hK2)).mono ?_; rintro e w3 ⟨rfl, hQ⟩))
  go_ret2
  exact ⟨rfl, hQ⟩

end Go.Proofs.YtgpidokklhjfdaaGreat

/-
  Alloc and Free of package space, whatever they are given.
-/
namespace Go.Proofs.YtgpidokklhjfdaaGreat
open Go.RowKit

set_option maxHeartbeats 1000000 in
theorem salloc_arg (sb : Nat) (n : Int) (w : World) (h : blockI n = 0) :
    Calls Tryz.prog 54 #[.pointer (some ⟨sb, 0, none⟩), .int .i64 n] w fun e w' => e = .returned (.tuple #[.int .i64 0, .int .i64 1]) ∧ Keep [] w w' := by
  have HB := (show Hid (blockI n = 0) from h)
  clear h
  go_enter Tryz.func54, Tryz.ntmps54
  go_wp2_with (go_at_call 84; refine (block_any _ _).mono ?_; rw [HB.out]; rintro e w1 ⟨rfl, hK1⟩)
  go_ret2
  exact ⟨rfl, hK1⟩
set_option maxHeartbeats 1000000 in
theorem salloc_nil (n : Int) (w : World) :
    Calls Tryz.prog 54 #[.pointer none, .int .i64 n] w fun e w' => e = .returned (.tuple #[.int .i64 0, .int .i64 2]) ∧ w = w' := by
  go_enter Tryz.func54, Tryz.ntmps54
  go_wp2
  go_ret2
  exact ⟨rfl, rfl⟩
set_option maxHeartbeats 1000000 in
theorem alloc_no (sb : Nat) (n : Int) (w : World) (h : blockI n ≠ 0)
    (ht : ∀ w', Keep [] w w' → Calls Tryz.prog 85 #[.pointer (some ⟨sb, 0, none⟩), .int .i64 n] w' fun e w'' => e = .returned (.tuple #[.int .i64 0, .int .i64 3]) ∧ Keep [] w' w'') :
    Calls Tryz.prog 54 #[.pointer (some ⟨sb, 0, none⟩), .int .i64 n] w fun e w' => e = .returned (.tuple #[.int .i64 0, .int .i64 3]) ∧ Keep [] w w' := by
  obtain ⟨b, hb⟩ : ∃ b, blockI n = b := ⟨_, rfl⟩
  have HB := (show Hid (blockI n = b) from hb)
  have hd : decide (b = 0) = false := by rw [decide_eq_false_iff_not, ← hb]; exact h
  rw [hb] at h
  have HT := (show Hid (∀ w', Keep [] w w' → Calls Tryz.prog 85 #[.pointer (some ⟨sb, 0, none⟩), .int .i64 n] w' fun e w'' => e = .returned (.tuple #[.int .i64 0, .int .i64 3]) ∧ Keep [] w' w'') from ht)
  clear hb ht
  go_enter Tryz.func54, Tryz.ntmps54
  go_wp2_with (first | (go_at_call 84; refine (block_any _ _).mono ?_; rw [HB.out]; rintro e w1 ⟨rfl, hK1⟩) | (go_at_call 85; refine (HT.out _ hK1).mono ?_; rintro e w2 ⟨rfl, hK2⟩))
  go_ret2
  exact ⟨rfl, hK1.trans hK2⟩
set_option maxHeartbeats 2000000 in
theorem alloc_yes (sb a b : Nat) (n : Int) (F : List Nat) (ws : List Int) (ts : List Bool) (kd : List PK) (w : World) (hb : blockI n = b) (hb1 : 1 ≤ b) (hab : a + b ≤ ws.length)
    (ht : ∀ w', Keep [] w w' → Calls Tryz.prog 85 #[.pointer (some ⟨sb, 0, none⟩), .int .i64 n] w' fun e w'' => e = .returned (.tuple #[.int .i64 a, .int .i64 0]) ∧ ∃ L F1, SpAt w'' sb L F1 ws ts kd ∧ Keep F w' w'' ∧ Grows w' F F1) :
    Calls Tryz.prog 54 #[.pointer (some ⟨sb, 0, none⟩), .int .i64 n] w fun e w' => ∃ L F1, e = .returned (.tuple #[.int .i64 a, .int .i64 0]) ∧ SpAt w' sb L F1 (fill0 ws a b) ts kd ∧ Keep F w w' ∧ Grows w F F1 := by
  have HB := (show Hid (blockI n = b) from hb)
  have hd : decide ((b : Int) = 0) = false := by rw [decide_eq_false_iff_not]; omega
  have HT := (show Hid (∀ w', Keep [] w w' → Calls Tryz.prog 85 #[.pointer (some ⟨sb, 0, none⟩), .int .i64 n] w' fun e w'' => e = .returned (.tuple #[.int .i64 a, .int .i64 0]) ∧ ∃ L F1, SpAt w'' sb L F1 ws ts kd ∧ Keep F w' w'' ∧ Grows w' F F1) from ht)
  clear hb ht
  go_enter Tryz.func54, Tryz.ntmps54
  go_wp2_with (first | (go_at_call 84; refine (block_any _ _).mono ?_; rw [HB.out]; rintro e w1 ⟨rfl, hK1⟩) | (go_at_call 85; refine (HT.out _ hK1).mono ?_; rintro e w2 ⟨rfl, L, F1, hS2, hK2, hG2⟩; have hc0 := hS2.c0; have hA2 := hS2.arena) | (go_at_call 86; refine (fill_yes L.ab L.ag a b _ _ hA2 (by omega) (by omega)).mono ?_; rintro e w3 ⟨rfl, hA3, hK3⟩))
  have hS3 := hS2.words hK3 hA3 (fill0_length ws a b hab)
  have f := hS2.f
  have hsz := hK1.size
  have hsz2 := hK2.size
  have HG := (show Hid (Grows w F F1) from fun k e => by
    rcases hG2 k e with h | h
    · exact .inl h
    · right; omega)
  have HK := (show Hid (Keep F w w3) from (((hK1.mono (T := L.ag :: F) (by simp)).trans (hK2.mono (fun k e => List.mem_cons_of_mem _ e))).trans (hK3.mono (by simp))).drop (fun k e hlt => by
    rcases List.mem_cons.1 e with rfl | e
    · rcases hG2 _ f.2.2.1 with h | h
      · exact h
      · omega
    · exact e))
  have HS := (show Hid (SpAt w3 sb L F1 (fill0 ws a b) ts kd) from hS3)
  clear hS3 hS2 hA2 hA3 hK3 hK2 hG2 f
  go_ret2
  exact ⟨L, F1, rfl, HS.out, HK.out, HG.out⟩

/-- Alloc that has room. -/
theorem salloc_yes (sb a b : Nat) (n : Int) (F : List Nat) (ws : List Int) (kd kd' : List PK) (w : World) (h : IsSpace w sb F ws kd) (hw : WF kd) (hr : AllocR kd n (some (a, kd'))) (hb : blockI n = b) :
    Calls Tryz.prog 54 #[.pointer (some ⟨sb, 0, none⟩), .int .i64 n] w fun e w' => ∃ F', e = .returned (.tuple #[.int .i64 a, .int .i64 0]) ∧ IsSpace w' sb F' (fill0 ws a b) kd' ∧ Keep F w w' ∧ Grows w F F' := by
  obtain ⟨b', hb', hb1, hw', hl', ha1, ha2, hf1, hf2⟩ := hr.spec hw
  obtain rfl : b = b' := by rw [hb] at hb'; omega
  obtain ⟨L, h⟩ := h
  have hlen := h.len
  have hn2 := hw.len2
  have fin : ∀ ht, _ := alloc_yes sb a b n F ws (takenL kd') kd' w hb hb1 (by omega)
  refine (fin ?_).mono ?_
  · intro w1 hK1
    have h1 := h.keep0 hK1
    cases hr with
    | old c p i xs e1 e2 e3 e4 e5 =>
      obtain ⟨hc, hxl, _⟩ := hw.small p c xs e3
      have hp := kat_lt kd p (by rw [e3]; simp)
      have hts : takenL kd = takenL (kd.set p (.small c (xs.set i true))) := by
        rw [taken_set]
        have : (takenL kd)[p]?.getD false = true := by rw [takenL_get, e3]; rfl
        refine beq_of_getD (by simp) (fun t => ?_)
        by_cases e : t = p
        · subst e; rw [this, bset_same _ _ _ (by rw [takenL_length]; exact hp)]; rfl
        · rw [bset_other _ _ _ _ (fun e' => e e'.symm)]
      refine take_small sb c n w1 _ _ (fun w'' => ∃ L F1, SpAt w'' sb L F1 ws (takenL (kd.set p (.small c (xs.set i true)))) (kd.set p (.small c (xs.set i true))) ∧ Keep F w1 w'' ∧ Grows w1 F F1) e1 hc ?_
      intro w2 hK2
      have h2 := h1.keep0 hK2
      refine (tks_yes sb c p i xs F ws (takenL kd) kd w2 hc ((room_old sb c p L F ws _ kd w2 h2 hw hc e2).mono ?_) e3 hxl e4 e5 (by omega)).mono ?_
      · rintro e w3 ⟨rfl, hK3⟩
        exact ⟨L, F, rfl, h2.keep0 hK3, hK3.mono (by simp), Grows.refl _ _⟩
      · rintro e w3 ⟨L3, F3, rfl, hS3, hK3, hG3⟩
        rw [hts] at hS3
        have := hK2.size
        refine ⟨rfl, L3, F3, hS3, (hK2.mono (by simp)).trans hK3, fun k e => ?_⟩
        rcases hG3 k e with h | h
        · exact .inl h
        · right; omega
    | new c p e1 e2 e3 =>
      obtain ⟨c', hc', hc⟩ : ∃ j : Nat, classI n = j ∧ j < 5 := by
        rcases class_lt n with e | e
        · rw [e1] at e; omega
        · exact e
      obtain rfl : c = c' := by rw [e1] at hc'; omega
      have hcl := run_clear (by omega) e3
      have hp : p < kd.length := by have := (clear_free hcl).1; omega
      obtain ⟨z1, z2, z3, z4, z5, z6, z7⟩ := sz_facts c hc
      have hx0 : nextR (offs (roomOf c)) 0 false = 0 := nextR_is _ _ _ 0 (by omega) (by rw [offs_length]; omega) (offs_get _ _) (fun t a b => by omega)
      have hset : (kd.set p (.small c (offs (roomOf c)))).set p (.small c ((offs (roomOf c)).set 0 true)) = kd.set p (.small c ((offs (roomOf c)).set 0 true)) := by simp
      refine take_small sb c n w1 _ _ (fun w'' => ∃ L F1, SpAt w'' sb L F1 ws (takenL (kd.set p (.small c ((offs (roomOf c)).set 0 true)))) (kd.set p (.small c ((offs (roomOf c)).set 0 true))) ∧ Keep F w1 w'' ∧ Grows w1 F F1) e1 hc ?_
      intro w2 hK2
      have h2 := h1.keep0 hK2
      have := tks_yes sb c p 0 (offs (roomOf c)) F ws _ (kd.set p (.small c (offs (roomOf c)))) w2 hc (room_new sb c p L F ws kd w2 h2 hw hc (none_has e2) e3 hcl) (kat_set_same _ _ _ hp) (offs_length _) hx0 (by rw [offs_length]; omega) (by omega)
      rw [hset, show 64 * p + 0 * sz c = 64 * p by omega] at this
      refine this.mono ?_
      rintro e w3 ⟨L3, F3, rfl, hS3, hK3, hG3⟩
      rw [show takenL (kd.set p (.small c (offs (roomOf c)))) = takenL (kd.set p (.small c ((offs (roomOf c)).set 0 true))) by rw [taken_set, taken_set]; rfl] at hS3
      have := hK2.size
      refine ⟨rfl, L3, F3, hS3, (hK2.mono (by simp)).trans hK3, fun k e => ?_⟩
      rcases hG3 k e with h | h
      · exact .inl h
      · right; omega
    | large k p e1 e2 e3 e4 =>
      have hcl := run_clear e3 e4
      have hk16 : k ≤ 16 := by have := (pages_le n).2; omega
      refine take_large sb k n w1 _ _ (fun w'' => ∃ L F1, SpAt w'' sb L F1 ws (takenL (putParts kd p k)) (putParts kd p k) ∧ Keep F w1 w'' ∧ Grows w1 F F1) e1 e2 ?_
      intro w2 hK2
      have h2 := h1.keep0 hK2
      refine (tkl_yes sb k p L F ws kd w2 h2 e3 hk16 e4 hcl hn2).mono ?_
      rintro e w3 ⟨L3, F3, rfl, hS3, hK3, hG3⟩
      have := hK2.size
      refine ⟨rfl, L3, F3, hS3, (hK2.mono (by simp)).trans hK3, fun k e => ?_⟩
      rcases hG3 k e with h | h
      · exact .inl h
      · right; omega
  · rintro e w' ⟨L', F', rfl, hS', hK', hG'⟩
    exact ⟨F', rfl, ⟨L', hS'⟩, hK', hG'⟩
/-- Alloc that has none. -/
theorem salloc_no (sb : Nat) (n : Int) (F : List Nat) (ws : List Int) (kd : List PK) (w : World) (h : IsSpace w sb F ws kd) (hw : WF kd) (hr : AllocR kd n none) (hb : blockI n ≠ 0) :
    Calls Tryz.prog 54 #[.pointer (some ⟨sb, 0, none⟩), .int .i64 n] w fun e w' => e = .returned (.tuple #[.int .i64 0, .int .i64 3]) ∧ Keep [] w w' := by
  obtain ⟨L, h⟩ := h
  refine alloc_no sb n w hb ?_
  intro w1 hK1
  have h1 := h.keep0 hK1
  cases hr with
  | full c e1 e2 e3 =>
    obtain ⟨c', hc', hc⟩ : ∃ j : Nat, classI n = j ∧ j < 5 := by
      rcases class_lt n with e | e
      · rw [e1] at e; omega
      · exact e
    obtain rfl : c = c' := by rw [e1] at hc'; omega
    refine take_small sb c n w1 _ _ (fun w'' => Keep [] w1 w'') e1 hc ?_
    intro w2 hK2
    refine (tks_no sb c w2 (room_full sb c L F ws _ kd w2 (h1.keep0 hK2) hw hc (none_has e2) e3)).mono ?_
    rintro e w3 ⟨rfl, hK3⟩
    exact ⟨rfl, hK2.trans hK3⟩
  | over k e1 e2 e3 e4 =>
    refine take_large sb k n w1 _ _ (fun w'' => Keep [] w1 w'') e1 e2 ?_
    intro w2 hK2
    refine (tkl_no sb k L F ws _ kd w2 (h1.keep0 hK2) e3 (by have := (pages_le n).2; omega) e4).mono ?_
    rintro e w3 ⟨rfl, hK3⟩
    exact ⟨rfl, hK2.trans hK3⟩

end Go.Proofs.YtgpidokklhjfdaaGreat

/-
  Free of package space.
-/
namespace Go.Proofs.YtgpidokklhjfdaaGreat
open Go.RowKit

end Go.Proofs.YtgpidokklhjfdaaGreat

/-
  A space that a statement has made: what each call answers and leaves, with nothing older turned.
-/
namespace Go.Proofs.YtgpidokklhjfdaaGreat
open Go.RowKit

/-- A space all of whose memory is younger than w0, in a world that leaves all that is older as it was. -/
def Held (w0 w : World) (sb : Nat) (ws : List Int) (kd : List PK) : Prop := ∃ F, IsSpace w sb F ws kd ∧ WF kd ∧ Keep [] w0 w ∧ ∀ k, k ∈ F → w0.heap.size ≤ k
theorem Held.keep0 {w0 w w' : World} {sb : Nat} {ws : List Int} {kd : List PK} (h : Held w0 w sb ws kd) (K : Keep [] w w') : Held w0 w' sb ws kd := by
  obtain ⟨F, h1, h2, h3, h4⟩ := h
  exact ⟨F, h1.keep0 K, h2, h3.trans K, h4⟩
theorem Held.K {w0 w : World} {sb : Nat} {ws : List Int} {kd : List PK} (h : Held w0 w sb ws kd) : Keep [] w0 w := by
  obtain ⟨F, h1, h2, h3, h4⟩ := h; exact h3
theorem Held.wf {w0 w : World} {sb : Nat} {ws : List Int} {kd : List PK} (h : Held w0 w sb ws kd) : WF kd := by
  obtain ⟨F, h1, h2, h3, h4⟩ := h; exact h2
theorem Held.len {w0 w : World} {sb : Nat} {ws : List Int} {kd : List PK} (h : Held w0 w sb ws kd) : ws.length = 64 * kd.length := by
  obtain ⟨F, h1, h2, h3, h4⟩ := h; exact h1.len
theorem Held.c0 {w0 w : World} {sb : Nat} {ws : List Int} {kd : List PK} (h : Held w0 w sb ws kd) : ∃ ab, w.cell? ⟨sb, 0, none⟩ = some (.pointer (some ⟨ab, 0, none⟩)) := by
  obtain ⟨F, ⟨L, h⟩, _⟩ := h; exact ⟨_, h.c0⟩
theorem Held.c1 {w0 w : World} {sb : Nat} {ws : List Int} {kd : List PK} (h : Held w0 w sb ws kd) : ∃ pb, w.cell? ⟨sb, 1, none⟩ = some (.pointer (some ⟨pb, 0, none⟩)) := by
  obtain ⟨F, ⟨L, h⟩, _⟩ := h; exact ⟨_, h.c1⟩
theorem Held.step {w0 w w' : World} {sb : Nat} {F F' : List Nat} {ws : List Int} {kd : List PK} (h1 : IsSpace w' sb F' ws kd) (h2 : WF kd) (hK0 : Keep [] w0 w) (hF : ∀ k, k ∈ F → w0.heap.size ≤ k) (hK : Keep F w w') (hG : Grows w F F') : Held w0 w' sb ws kd := by
  have := hK0.size
  refine ⟨F', h1, h2, (hK0.mono (by simp)).trans hK |>.drop (fun k e hlt => by have := hF k e; omega), fun k e => ?_⟩
  rcases hG k e with e | e
  · exact hF k e
  · omega

theorem hnew (n : Nat) (w0 w : World) (hK : Keep [] w0 w) (h1 : 1 ≤ n) (h2 : n ≤ 256) :
    Calls Tryz.prog 49 #[.int .i64 n] w fun e w' => ∃ sb, e = .returned (.tuple #[.pointer (some ⟨sb, 0, none⟩), .int .i64 0]) ∧ Held w0 w' sb (zeros (64 * n)) (freshK n) := by
  refine (snew_ok n w h1 h2).mono ?_
  rintro e w' ⟨sb, F, rfl, hS, hK1, _, hF⟩
  have := hK.size
  exact ⟨sb, rfl, F, hS, freshK_wf n h1 h2, hK.trans hK1, fun k e => by have := hF k e; omega⟩
theorem halloc_yes {w0 : World} (sb a b : Nat) (n : Int) (ws : List Int) (kd kd' : List PK) (w : World) (h : Held w0 w sb ws kd) (hr : AllocR kd n (some (a, kd'))) (hb : blockI n = b) :
    Calls Tryz.prog 54 #[.pointer (some ⟨sb, 0, none⟩), .int .i64 n] w fun e w' => e = .returned (.tuple #[.int .i64 a, .int .i64 0]) ∧ Held w0 w' sb (fill0 ws a b) kd' := by
  obtain ⟨F, h1, h2, h3, h4⟩ := h
  refine (salloc_yes sb a b n F ws kd kd' w h1 h2 hr hb).mono ?_
  rintro e w' ⟨F', rfl, hS, hK, hG⟩
  obtain ⟨_, _, _, hw', _⟩ := hr.spec h2
  exact ⟨rfl, Held.step hS hw' h3 h4 hK hG⟩
theorem halloc_no {w0 : World} (sb : Nat) (n : Int) (ws : List Int) (kd : List PK) (w : World) (h : Held w0 w sb ws kd) (hr : AllocR kd n none) (hb : blockI n ≠ 0) :
    Calls Tryz.prog 54 #[.pointer (some ⟨sb, 0, none⟩), .int .i64 n] w fun e w' => e = .returned (.tuple #[.int .i64 0, .int .i64 3]) ∧ Held w0 w' sb ws kd := by
  obtain ⟨F, h1, h2, h3, h4⟩ := h
  refine (salloc_no sb n F ws kd w h1 h2 hr hb).mono ?_
  rintro e w' ⟨rfl, hK⟩
  exact ⟨rfl, F, h1.keep0 hK, h2, h3.trans hK, h4⟩
theorem halloc_arg {w0 : World} (sb : Nat) (n : Int) (ws : List Int) (kd : List PK) (w : World) (h : Held w0 w sb ws kd) (hb : blockI n = 0) :
    Calls Tryz.prog 54 #[.pointer (some ⟨sb, 0, none⟩), .int .i64 n] w fun e w' => e = .returned (.tuple #[.int .i64 0, .int .i64 1]) ∧ Held w0 w' sb ws kd := by
  refine (salloc_arg sb n w hb).mono ?_
  rintro e w' ⟨rfl, hK⟩
  exact ⟨rfl, h.keep0 hK⟩
theorem hfind {w0 : World} (sb : Nat) (a : Int) (ws : List Int) (kd : List PK) (w : World) (h : Held w0 w sb ws kd) :
    Calls Tryz.prog 101 #[.pointer (some ⟨sb, 0, none⟩), .int .i64 a] w fun e w' => e = .returned (foundV (findI kd a)) ∧ Held w0 w' sb ws kd := by
  obtain ⟨F, h1, h2, h3, h4⟩ := h
  refine (sfind_any sb F a ws kd w h1 h2).mono ?_
  rintro e w' ⟨rfl, hK⟩
  exact ⟨rfl, F, h1.keep0 hK, h2, h3.trans hK, h4⟩
/-- The arena's own calls, through the space. -/
theorem hload {w0 : World} (sb ab a : Nat) (ws : List Int) (kd : List PK) (w : World) (h : Held w0 w sb ws kd) (hc : w.cell? ⟨sb, 0, none⟩ = some (.pointer (some ⟨ab, 0, none⟩))) (ha : a < ws.length) :
    Calls Tryz.prog 75 #[.pointer (some ⟨ab, 0, none⟩), .int .i64 a] w fun e w' => e = .returned (.tuple #[.int .i64 (ws[a]?.getD 0), .int .i64 0]) ∧ w = w' := by
  obtain ⟨F, ⟨L, h1⟩, h2, h3, h4⟩ := h
  have e := h1.c0
  rw [hc] at e
  have e2 : ab = L.ab := by injection e with e; injection e with e; injection e with e; injection e
  subst e2
  exact load_yes L.ab L.ag a ws w h1.arena ha
theorem hstore {w0 : World} (sb ab a : Nat) (x : Int) (ws : List Int) (kd : List PK) (w : World) (h : Held w0 w sb ws kd) (hc : w.cell? ⟨sb, 0, none⟩ = some (.pointer (some ⟨ab, 0, none⟩))) (ha : a < ws.length) :
    Calls Tryz.prog 58 #[.pointer (some ⟨ab, 0, none⟩), .int .i64 a, .int .i64 x] w fun e w' => e = .returned (.int .i64 0) ∧ Held w0 w' sb (ws.set a x) kd := by
  obtain ⟨F, ⟨L, h1⟩, h2, h3, h4⟩ := h
  have e := h1.c0
  rw [hc] at e
  have e2 : ab = L.ab := by injection e with e; injection e with e; injection e with e; injection e
  subst e2
  refine (store_yes L.ab L.ag a x ws w h1.arena ha).mono ?_
  rintro e w' ⟨rfl, hA, hK⟩
  have f := h1.f.2.2.1
  exact ⟨rfl, Held.step (F := F) (F' := F) ⟨L, h1.words hK hA (by simp)⟩ h2 h3 h4 (hK.mono (fun k e => by simp at e; subst e; exact f)) (Grows.refl _ _)⟩
/-- The first block of a new space. -/
theorem fresh_small (N c : Nat) (n : Int) (hN : 2 ≤ N) (hc : classI n = c) : AllocR (freshK N) n (some (64, (freshK N).set 1 (.small c ((offs (roomOf c)).set 0 true)))) := by
  have := AllocR.new (kd := freshK N) (n := n) c 1 hc (nextR_none _ _ _ (fun t _ _ => by rw [hasL_get, freshK_has N c t (by omega)]; simp)) (by rw [freshK_taken N (by omega)]; exact fresh_run N 1 (by omega) (by omega))
  exact this
theorem fresh_large (N k : Nat) (n : Int) (hk : 1 ≤ k) (hN : k < N) (hc : classI n = -1) (hp : pagesI n = k) : AllocR (freshK N) n (some (64, putParts (freshK N) 1 k)) := by
  have := AllocR.large (kd := freshK N) (n := n) k 1 hc hp hk (by rw [freshK_taken N (by omega)]; exact fresh_run N k hk hN)
  exact this
/-- Whatever is asked of a new space. -/
theorem fresh_alloc (N b : Nat) (n : Int) (hb : blockI n = b) (hb1 : 1 ≤ b) (hN : b ≤ 64 * (N - 1)) (hN2 : 2 ≤ N) : ∃ kd', AllocR (freshK N) n (some (64, kd')) := by
  rcases class_lt n with hc | ⟨c, hc, _⟩
  · obtain ⟨k, hk⟩ := Int.eq_ofNat_of_zero_le (pages_le n).1
    have e := block_none n hc
    rw [hk] at e
    exact ⟨_, fresh_large N k n (by omega) (by omega) hc hk⟩
  · exact ⟨_, fresh_small N c n hN2 hc⟩

set_option maxHeartbeats 400000 in
theorem err_any (n : Int) (w : World) :
    Calls Tryz.prog 7 #[.int .i64 n] w fun e w' => e = .returned (.int .i64 n) ∧ w = w' := by
  go_enter Tryz.func7, Tryz.ntmps7
  go_wp2
  go_ret
  exact ⟨rfl, rfl⟩

theorem awake_used : usedK ((freshK 2).set 1 (.small 1 ((offs (roomOf 1)).set 0 true))) = 4 := by decide +kernel
end Go.Proofs.YtgpidokklhjfdaaGreat

/-
  A heap in memory: its block, its space and its table, in blocks of their own; what a call of its space or of its table leaves of it.
-/
namespace Go.Proofs.YtgpidokklhjfdaaGreat
open Go.RowKit

def spaceA (sb : Nat) (ws : List Int) (kd : List PK) : Asn where
  at' w F := IsSpace w sb F ws kd
  keep := fun h K hS => h.keep K hS
  lt := fun h => h.lt
def tabA (tb : Nat) (ds : List (Int × List Int)) : Asn where
  at' w F := IsTab w tb F ds
  keep := fun h K hS => h.keep K hS
  lt := fun h => h.lt
/-- Block hb is a heap of the space sb and the table tb. -/
def rawA (hb sb tb : Nat) (ws : List Int) (kd : List PK) (ds : List (Int × List Int)) : Asn :=
  (blockA hb (.cells #[.pointer (some ⟨sb, 0, none⟩), .pointer (some ⟨tb, 0, none⟩)] 63 (0, 0))).star ((spaceA sb ws kd).star (tabA tb ds))
def heapA (hb : Nat) (ws : List Int) (kd : List PK) (ds : List (Int × List Int)) : Asn where
  at' w F := (∃ sb tb, (rawA hb sb tb ws kd ds).at' w F) ∧ Fine ws kd ds
  keep := fun h K hS => by
    obtain ⟨⟨sb, tb, h1⟩, h2⟩ := h
    exact ⟨⟨sb, tb, (rawA hb sb tb ws kd ds).keep h1 K hS⟩, h2⟩
  lt := fun h => by
    obtain ⟨⟨sb, tb, h1⟩, h2⟩ := h
    exact (rawA hb sb tb ws kd ds).lt h1

theorem Has.fine {w0 w : World} {F0 : List Nat} {hb : Nat} {ws : List Int} {kd : List PK} {ds : List (Int × List Int)} (h : Has w0 F0 (heapA hb ws kd ds) w) : Fine ws kd ds := h.fact (fun _ h => h.2)
theorem Has.raw {w0 w : World} {F0 : List Nat} {hb : Nat} {ws : List Int} {kd : List PK} {ds : List (Int × List Int)} (h : Has w0 F0 (heapA hb ws kd ds) w) : ∃ sb tb, Has w0 F0 (rawA hb sb tb ws kd ds) w := by
  obtain ⟨F, ⟨⟨sb, tb, h1⟩, h2⟩, u⟩ := h
  exact ⟨sb, tb, F, h1, u⟩
theorem Has.heap {w0 w : World} {F0 : List Nat} {hb sb tb : Nat} {ws : List Int} {kd : List PK} {ds : List (Int × List Int)} (h : Has w0 F0 (rawA hb sb tb ws kd ds) w) (hf : Fine ws kd ds) : Has w0 F0 (heapA hb ws kd ds) w :=
  h.map (fun _ h => ⟨⟨sb, tb, h⟩, hf⟩)
/-- The cells that are read. -/
theorem Has.cells {w0 w : World} {F0 : List Nat} {hb sb tb : Nat} {ws : List Int} {kd : List PK} {ds : List (Int × List Int)} (h : Has w0 F0 (rawA hb sb tb ws kd ds) w) :
    w.cell? ⟨hb, 0, none⟩ = some (.pointer (some ⟨sb, 0, none⟩)) ∧ w.cell? ⟨hb, 1, none⟩ = some (.pointer (some ⟨tb, 0, none⟩)) ∧
      (∃ ab ag, w.cell? ⟨sb, 0, none⟩ = some (.pointer (some ⟨ab, 0, none⟩)) ∧ IsArena w ab ag ws) ∧ (∃ pb, w.cell? ⟨sb, 1, none⟩ = some (.pointer (some ⟨pb, 0, none⟩))) ∧ ws.length = 64 * kd.length := by
  refine h.fact (fun F h => ?_)
  obtain ⟨F1, F2, _, ⟨_, h1⟩, ⟨F3, F4, _, ⟨L, h2⟩, h3, _⟩, _⟩ := h
  exact ⟨by simp [World.cell?, h1], by simp [World.cell?, h1], ⟨_, _, h2.c0, h2.arena⟩, ⟨_, h2.c1⟩, h2.len⟩
theorem Has.space {w0 w : World} {F0 : List Nat} {hb sb tb : Nat} {ws : List Int} {kd : List PK} {ds : List (Int × List Int)} (h : Has w0 F0 (rawA hb sb tb ws kd ds) w) : ∃ F, IsSpace w sb F ws kd :=
  h.fact (fun F h => by obtain ⟨F1, F2, _, _, ⟨F3, F4, _, h2, h3, _⟩, _⟩ := h; exact ⟨F3, h2⟩)
theorem Has.tab {w0 w : World} {F0 : List Nat} {hb sb tb : Nat} {ws : List Int} {kd : List PK} {ds : List (Int × List Int)} (h : Has w0 F0 (rawA hb sb tb ws kd ds) w) : ∃ F, IsTab w tb F ds :=
  h.fact (fun F h => by obtain ⟨F1, F2, _, _, ⟨F3, F4, _, h2, h3, _⟩, _⟩ := h; exact ⟨F4, h3⟩)
/-- What turns the space alone. -/
theorem Has.inSpace {w0 w w' : World} {F0 : List Nat} {hb sb tb : Nat} {ws ws' : List Int} {kd kd' : List PK} {ds : List (Int × List Int)} (h : Has w0 F0 (rawA hb sb tb ws kd ds) w)
    (g : ∀ F, IsSpace w sb F ws kd → ∃ F', IsSpace w' sb F' ws' kd' ∧ Keep F w w' ∧ Grows w F F') : Has w0 F0 (rawA hb sb tb ws' kd' ds) w' := by
  have h1 := Has.comm h
  have h2 := Has.left h1 (A' := (spaceA sb ws' kd').star (tabA tb ds)) (w' := w') (fun F e => Has.left (Has.start e) (fun F e => by
    obtain ⟨F', g1, g2, g3⟩ := g F e
    exact ⟨F', g1, g2, g3⟩))
  exact h2.comm
/-- What turns the table alone. -/
theorem Has.inTab {w0 w w' : World} {F0 : List Nat} {hb sb tb : Nat} {ws : List Int} {kd : List PK} {ds ds' : List (Int × List Int)} (h : Has w0 F0 (rawA hb sb tb ws kd ds) w)
    (g : ∀ F, IsTab w tb F ds → ∃ F', IsTab w' tb F' ds' ∧ Keep F w w' ∧ Grows w F F') : Has w0 F0 (rawA hb sb tb ws kd ds') w' := by
  have h1 := Has.comm h
  have h2 := Has.left h1 (A' := (spaceA sb ws kd).star (tabA tb ds')) (w' := w') (fun F e => (Has.left (Has.start e).comm (A' := tabA tb ds') (fun F e => by
    obtain ⟨F', g1, g2, g3⟩ := g F e
    exact ⟨F', g1, g2, g3⟩)).comm)
  exact h2.comm

/-! ### Calls of the space and of the table -/
section
variable {w0 : World} {F0 : List Nat} {hb sb tb : Nat} {ws : List Int} {kd : List PK} {ds : List (Int × List Int)} (w : World)
theorem xalloc (n N E : Int) (ws' : List Int) (kd' : List PK) (h : Has w0 F0 (rawA hb sb tb ws kd ds) w) (hw : WF kd) (hr : AllocT kd ws n N E ws' kd') :
    Calls Tryz.prog 54 #[.pointer (some ⟨sb, 0, none⟩), .int .i64 n] w fun e w' => e = .returned (.tuple #[.int .i64 N, .int .i64 E]) ∧ Has w0 F0 (rawA hb sb tb ws' kd' ds) w' := by
  cases hr with
  | arg hb =>
    refine (salloc_arg sb n w hb).mono ?_
    rintro e w' ⟨rfl, hK⟩
    exact ⟨rfl, h.keep0 hK⟩
  | no hb hr =>
    obtain ⟨F, hS⟩ := h.space
    refine (salloc_no sb n F ws kd w hS hw hr hb).mono ?_
    rintro e w' ⟨rfl, hK⟩
    exact ⟨rfl, h.keep0 hK⟩
  | yes a b kd' hr hb =>
    obtain ⟨F, ⟨F1, F2, hF, h1, ⟨F3, F4, hF', h2, h3, hd'⟩, hd⟩, u⟩ := h
    refine (salloc_yes sb a b n F3 ws kd kd' w h2 hw hr hb).mono ?_
    rintro e w' ⟨F', rfl, hS, hK, hG⟩
    obtain ⟨G1, g1, g2⟩ := star_left (A' := spaceA sb (fill0 ws a b) kd') (B := tabA tb ds) hF' hd' h3 hS ⟨hK, hG⟩
    obtain ⟨G2, g3, g4⟩ := star_right hF hd h1 g1 g2
    exact ⟨rfl, G2, g3, u.trans g4⟩
theorem xfind (a : Int) (h : Has w0 F0 (rawA hb sb tb ws kd ds) w) (hw : WF kd) :
    Calls Tryz.prog 101 #[.pointer (some ⟨sb, 0, none⟩), .int .i64 a] w fun e w' => e = .returned (foundV (findI kd a)) ∧ Keep [] w w' := by
  obtain ⟨F, hS⟩ := h.space
  exact sfind_any sb F a ws kd w hS hw
theorem xeach (h : Has w0 F0 (rawA hb sb tb ws kd ds) w) (hw : WF kd) :
    Calls Tryz.prog 45 #[.pointer (some ⟨sb, 0, none⟩)] w fun e w' => ∃ la lc, e = .returned (.slice la (eachK kd).length lc) ∧ IntsAt w' la (eachK kd) ∧ (∀ a, la = some a → w.heap.size ≤ a.block) ∧ Keep [] w w' := by
  obtain ⟨F, hS⟩ := h.space
  refine (seach_any sb F ws kd w hS hw).mono ?_
  rintro e w' ⟨v, rfl, ⟨la, lc, rfl, h1, h2, h3⟩, hK⟩
  exact ⟨la, lc, rfl, h1, h3, hK⟩
/-- The arena's own calls, through the space. -/
theorem xload (ab ag a : Nat) (hA : IsArena w ab ag ws) (ha : a < ws.length) :
    Calls Tryz.prog 75 #[.pointer (some ⟨ab, 0, none⟩), .int .i64 a] w fun e w' => e = .returned (.tuple #[.int .i64 (ws[a]?.getD 0), .int .i64 0]) ∧ w = w' := load_yes ab ag a ws w hA ha
theorem xstore (ab a : Nat) (x : Int) (h : Has w0 F0 (rawA hb sb tb ws kd ds) w) (hc : w.cell? ⟨sb, 0, none⟩ = some (.pointer (some ⟨ab, 0, none⟩))) (ha : a < ws.length) :
    Calls Tryz.prog 58 #[.pointer (some ⟨ab, 0, none⟩), .int .i64 a, .int .i64 x] w fun e w' => e = .returned (.int .i64 0) ∧ Has w0 F0 (rawA hb sb tb (ws.set a x) kd ds) w' := by
  obtain ⟨F, ⟨F1, F2, hF, h1, ⟨F3, F4, hF', ⟨L, h2⟩, h3, hd'⟩, hd⟩, u⟩ := h
  have e := h2.c0
  rw [hc] at e
  have e2 : ab = L.ab := by injection e with e; injection e with e; injection e with e; injection e
  subst e2
  refine (store_yes L.ab L.ag a x ws w h2.arena ha).mono ?_
  rintro e w' ⟨rfl, hA, hK⟩
  have f := h2.f.2.2.1
  obtain ⟨G1, g1, g2⟩ := star_left (A' := spaceA sb (ws.set a x) kd) (B := tabA tb ds) hF' hd' h3 ⟨L, h2.words hK hA (by simp)⟩ ⟨hK.mono (fun k e => by simp at e; subst e; exact f), fun k e => .inl e⟩
  obtain ⟨G2, g3, g4⟩ := star_right hF hd h1 g1 g2
  exact ⟨rfl, G2, g3, u.trans g4⟩
theorem xadd (f : Int) (ao : Option Addr) (n c : Nat) (L : List Int) (h : Has w0 F0 (rawA hb sb tb ws kd ds) w) (hA : IntsAt w ao L) (hc : ao = none → c = 0) (hn : L.length = n) (hbd : n ≤ 1000000) :
    Calls Tryz.prog 51 #[.pointer (some ⟨tb, 0, none⟩), .agg #[.int .i64 f, .slice ao n c]] w fun e w' => e = .returned (.tuple #[.int .i64 (addN ds f L), .int .i64 (addE ds f L)]) ∧ Has w0 F0 (rawA hb sb tb ws kd (addR ds f L)) w' := by
  obtain ⟨F, ⟨F1, F2, hF, h1, ⟨F3, F4, hF', h2, h3, hd'⟩, hd⟩, u⟩ := h
  refine (tadd_any tb F4 ds f ao n c L w h3 hA hc hn hbd).mono ?_
  rintro e w' ⟨rfl, ⟨F', hT, hG⟩, hK⟩
  obtain ⟨G1, g1, g2⟩ := star_right (A := spaceA sb ws kd) (B' := tabA tb (addR ds f L)) hF' hd' h2 hT ⟨hK, hG⟩
  obtain ⟨G2, g3, g4⟩ := star_right hF hd h1 g1 g2
  exact ⟨rfl, G2, g3, u.trans g4⟩
theorem xof (f : Int) (ao : Option Addr) (n c : Nat) (L : List Int) (h : Has w0 F0 (rawA hb sb tb ws kd ds) w) (hA : IntsAt w ao L) (hc : ao = none → c = 0) (hn : L.length = n) (hbd : n ≤ 1000000) :
    Calls Tryz.prog 23 #[.pointer (some ⟨tb, 0, none⟩), .int .i64 f, .slice ao n c] w fun e w' => e = .returned (.tuple #[.int .i64 (addN ds f L), .int .i64 (addE ds f L)]) ∧ Has w0 F0 (rawA hb sb tb ws kd (addR ds f L)) w' := by
  obtain ⟨F, ⟨F1, F2, hF, h1, ⟨F3, F4, hF', h2, h3, hd'⟩, hd⟩, u⟩ := h
  refine (tof_any tb F4 ds f ao n c L w h3 hA hc hn hbd).mono ?_
  rintro e w' ⟨rfl, ⟨F', hT, hG⟩, hK⟩
  obtain ⟨G1, g1, g2⟩ := star_right (A := spaceA sb ws kd) (B' := tabA tb (addR ds f L)) hF' hd' h2 hT ⟨hK, hG⟩
  obtain ⟨G2, g3, g4⟩ := star_right hF hd h1 g1 g2
  exact ⟨rfl, G2, g3, u.trans g4⟩
end

end Go.Proofs.YtgpidokklhjfdaaGreat

/-
  Package object: what begins, Head, place, Field, Put, fits, setHead, Make and Final answer and leave.
-/
namespace Go.Proofs.YtgpidokklhjfdaaGreat
open Go.RowKit

section
variable {w0 : World} {F0 : List Nat} {hb : Nat} {ws : List Int} {kd : List PK} {ds : List (Int × List Int)}

set_option maxHeartbeats 800000 in
theorem obegins {sb tb : Nat} (a : Int) (w : World) (h : Has w0 F0 (rawA hb sb tb ws kd ds) w) (hw : WF kd) :
    Calls Tryz.prog 74 #[.pointer (some ⟨hb, 0, none⟩), .int .i64 a] w fun e w' => e = .returned (.bool (isAt kd a)) ∧ Keep [] w w' := by
  obtain ⟨c0, _⟩ := h.cells
  have HX := (show Hid (Has w0 F0 (rawA hb sb tb ws kd ds) w) from h)
  have HW := (show Hid (WF kd) from hw)
  clear h hw
  unfold isAt
  cases hf : findI kd a with
  | none =>
    have HF := (show Hid (findI kd a = none) from hf)
    clear hf
    go_enter Tryz.func74, Tryz.ntmps74
    go_wp2_with (first | (go_at_call 101; refine (xfind _ a HX.out HW.out).mono ?_; rw [HF.out]; simp only [foundV]; rintro e w1 ⟨rfl, hK1⟩))
    go_ret
    exact ⟨rfl, hK1⟩
  | some o =>
    obtain ⟨s, n⟩ := o
    have HF := (show Hid (findI kd a = some (s, n)) from hf)
    clear hf
    go_enter Tryz.func74, Tryz.ntmps74
    go_wp2_with (first | (go_at_call 101; refine (xfind _ a HX.out HW.out).mono ?_; rw [HF.out]; simp only [foundV]; rintro e w1 ⟨rfl, hK1⟩))
    go_ret
    exact ⟨rfl, hK1⟩
set_option maxHeartbeats 800000 in
theorem obegins_nil (a : Int) (w : World) :
    Calls Tryz.prog 74 #[.pointer none, .int .i64 a] w fun e w' => e = .returned (.bool false) ∧ w = w' := by
  go_enter Tryz.func74, Tryz.ntmps74
  go_wp2_with fail
  go_ret
  exact ⟨rfl, rfl⟩

/-- Head where there is none. -/
theorem ohead_none (pv : Option Addr) (a : Int) (w : World) (hc : ∀ w1, Keep [] w w1 → Calls Tryz.prog 74 #[.pointer pv, .int .i64 a] w1 fun e w' => e = .returned (.bool false) ∧ Keep [] w1 w') :
    Calls Tryz.prog 46 #[.pointer pv, .int .i64 a] w fun e w' => e = .returned (.tuple #[.agg #[.int .i64 0, .int .i64 0, .int .i64 0, .bool false], .int .i64 2]) ∧ Keep [] w w' := by
  have HC := (show Hid (∀ w1, Keep [] w w1 → Calls Tryz.prog 74 #[.pointer pv, .int .i64 a] w1 fun e w' => e = .returned (.bool false) ∧ Keep [] w1 w') from hc)
  have hK := Keep.alloc [] w (.cells #[.int .i64 0, .int .i64 0, .int .i64 0, .bool false] 68)
  have hx := heap_alloc_new w (.cells #[.int .i64 0, .int .i64 0, .int .i64 0, .bool false] 68)
  clear hc
  go_enter Tryz.func46, Tryz.ntmps46
  go_wp2_with (first | (go_at_call 74; refine (HC.out _ hK).mono ?_; rintro e w1 ⟨rfl, hK1⟩; have hx1 := hK1.blk hx (by simp); obtain ⟨f0, f1, f2, f3⟩ := four_free hx1; obtain ⟨d0, d1, d2, d3⟩ := four_cells hx1))
  obtain ⟨z, hk4⟩ := four_put hx1 (.int .i64 0) (.int .i64 0) (.int .i64 0) (.bool false)
  refine bodyPost_ret (results_cell_tmp_row rfl _ _ w.heap.size 68 #[.int .i64 0, .int .i64 0, .int .i64 0, .bool false] (0, 0) _ rfl z Tryz.underlying68 rfl (by kernel_rfl)) rfl ?_
  exact ⟨rfl, (((hK.trans hK1).mono (T := [w.heap.size]) (by simp)).trans hk4).drop (by simp)⟩

set_option maxRecDepth 100000 in
set_option maxHeartbeats 1600000 in
theorem ohead_yes {sb tb : Nat} (b m : Nat) (k c l : Int) (f : Bool) (w : World) (h : Has w0 F0 (rawA hb sb tb ws kd ds) w) (hw : WF kd) (hA : At kd ws b b m k c l f) :
    Calls Tryz.prog 46 #[.pointer (some ⟨hb, 0, none⟩), .int .i64 b] w fun e w' => e = .returned (.tuple #[.agg #[.int .i64 k, .int .i64 c, .int .i64 l, .bool f], .int .i64 0]) ∧ Keep [] w w' := by
  have HI := (show Hid (isAt kd (b : Int) = true) from isAt_yes hA)
  have hK := Keep.alloc [] w (.cells #[.int .i64 0, .int .i64 0, .int .i64 0, .bool false] 68)
  have hx := heap_alloc_new w (.cells #[.int .i64 0, .int .i64 0, .int .i64 0, .bool false] 68)
  have HX := (show Hid (Has w0 F0 (rawA hb sb tb ws kd ds) (w.alloc (.cells #[.int .i64 0, .int .i64 0, .int .i64 0, .bool false] 68))) from h.keep0 hK)
  have HW := (show Hid (WF kd) from hw)
  obtain ⟨_, e1, e2, e3, e4, e5⟩ := hA.facts hw
  have hlt : b < ws.length := by rw [h.cells.2.2.2.2]; omega
  obtain ⟨x, hx'⟩ : ∃ x, ws[b]?.getD 0 = x := ⟨_, rfl⟩
  have HV := (show Hid (ws[b]?.getD 0 = x) from hx')
  have hWd := hA.2.2
  rw [hx'] at hWd
  have HWD := (show Hid (Word x k c l f) from hWd)
  clear h hw hA hx' hWd e1 e2 e3 e4 e5
  go_enter Tryz.func46, Tryz.ntmps46
  go_wp2_with (first | (go_at_call 74; refine (obegins b _ HX.out HW.out).mono ?_; rw [HI.out]; rintro e w1 ⟨rfl, hK1⟩; have hx1 := hK1.blk hx (by simp); obtain ⟨c0, _, ⟨ab, ag, c2, hAr⟩, _, _⟩ := (HX.out.keep0 hK1).cells) | (go_at_call 75; refine (xload _ ab ag b hAr hlt).mono ?_; rw [HV.out]; rintro e w' ⟨rfl, rfl⟩) | (go_at_call 76; refine (hget_yes x k c l f _ HWD.out).mono ?_; rintro e w3 ⟨rfl, hK3⟩; have hx3 := (hK3.trans (Keep.alloc [] w3 (.cells #[.int .i64 k, .int .i64 c, .int .i64 l, .bool f] 68))).blk hx1 (by simp); have hy3 := heap_alloc_new w3 (.cells #[.int .i64 k, .int .i64 c, .int .i64 l, .bool f] 68); obtain ⟨f0, f1, f2, f3⟩ := four_free hx3; obtain ⟨d0, d1, d2, d3⟩ := four_cells hx3; obtain ⟨g0, g1, g2, g3⟩ := four_cells hy3; have hlw := lt_of_block hx1; have hne : w.heap.size ≠ w3.heap.size := (by have := hK3.size; omega)))
  obtain ⟨z, hk4⟩ := four_put hx3 (.int .i64 k) (.int .i64 c) (.int .i64 l) (.bool f)
  refine bodyPost_ret (results_cell_tmp_row rfl _ _ w.heap.size 68 #[.int .i64 k, .int .i64 c, .int .i64 l, .bool f] (0, 0) _ rfl z Tryz.underlying68 rfl (by kernel_rfl)) rfl ?_
  exact ⟨rfl, (((((hK.trans hK1).trans hK3).trans (Keep.alloc [] w3 _)).mono (T := [w.heap.size]) (by simp)).trans hk4).drop (by simp)⟩

theorem ohead (a k c l E : Int) (f : Bool) (w : World) (h : Has w0 F0 (heapA hb ws kd ds) w) (hT : HeadT kd ws a k c l f E) :
    Calls Tryz.prog 46 #[.pointer (some ⟨hb, 0, none⟩), .int .i64 a] w fun e w' => e = .returned (.tuple #[.agg #[.int .i64 k, .int .i64 c, .int .i64 l, .bool f], .int .i64 E]) ∧ Keep [] w w' := by
  obtain ⟨sb, tb, hr⟩ := h.raw
  have hw := h.fine.wf
  cases hT with
  | no hn =>
    refine ohead_none _ a w (fun w1 K => ?_)
    have := obegins a w1 (hr.keep0 K) hw
    rw [isAt_no hn] at this
    exact this
  | yes b m k c l f hA =>
    obtain ⟨rfl, _⟩ := hA.facts hw
    exact ohead_yes b m k c l f w hr hw hA
theorem ohead_nil (a : Int) (w : World) :
    Calls Tryz.prog 46 #[.pointer none, .int .i64 a] w fun e w' => e = .returned (.tuple #[.agg #[.int .i64 0, .int .i64 0, .int .i64 0, .bool false], .int .i64 2]) ∧ Keep [] w w' :=
  ohead_none none a w (fun w1 _ => (obegins_nil a w1).mono (by rintro e w' ⟨rfl, rfl⟩; exact ⟨rfl, Keep.refl _ _⟩))

/-! ### Fields -/
set_option maxRecDepth 100000 in
set_option maxHeartbeats 1600000 in
theorem oplace_head (pv : Option Addr) (a i : Int) (k c l E : Int) (f : Bool) (w : World) (hc : Calls Tryz.prog 46 #[.pointer pv, .int .i64 a] w fun e w' => e = .returned (.tuple #[.agg #[.int .i64 k, .int .i64 c, .int .i64 l, .bool f], .int .i64 E]) ∧ Keep [] w w') (hE : E ≠ 0) :
    Calls Tryz.prog 57 #[.pointer pv, .int .i64 a, .int .i64 i] w fun e w' => e = .returned (.tuple #[.int .i64 0, .int .i64 E]) ∧ Keep [] w w' := by
  have HC := (show Hid (Calls Tryz.prog 46 #[.pointer pv, .int .i64 a] w fun e w' => e = .returned (.tuple #[.agg #[.int .i64 k, .int .i64 c, .int .i64 l, .bool f], .int .i64 E]) ∧ Keep [] w w') from hc)
  have hd : (E == 0) = false := by simpa using hE
  clear hc
  go_enter Tryz.func57, Tryz.ntmps57
  go_wp2_with (first | (go_at_call 46; refine HC.out.mono ?_; rintro e w1 ⟨rfl, hK1⟩))
  go_ret2
  exact ⟨rfl, hK1.trans (Keep.alloc [] _ _)⟩
set_option maxRecDepth 100000 in
set_option maxHeartbeats 1600000 in
theorem oplace_arg (pv : Option Addr) (a i : Int) (k c l : Int) (f : Bool) (w : World) (hc : Calls Tryz.prog 46 #[.pointer pv, .int .i64 a] w fun e w' => e = .returned (.tuple #[.agg #[.int .i64 k, .int .i64 c, .int .i64 l, .bool f], .int .i64 0]) ∧ Keep [] w w') (hi : ¬ (0 ≤ i ∧ i < l)) :
    Calls Tryz.prog 57 #[.pointer pv, .int .i64 a, .int .i64 i] w fun e w' => e = .returned (.tuple #[.int .i64 0, .int .i64 1]) ∧ Keep [] w w' := by
  have HC := (show Hid (Calls Tryz.prog 46 #[.pointer pv, .int .i64 a] w fun e w' => e = .returned (.tuple #[.agg #[.int .i64 k, .int .i64 c, .int .i64 l, .bool f], .int .i64 0]) ∧ Keep [] w w') from hc)
  clear hc
  by_cases h0 : i < 0
  · go_enter Tryz.func57, Tryz.ntmps57
    go_wp2_with (first | (go_at_call 46; refine HC.out.mono ?_; rintro e w1 ⟨rfl, hK1⟩))
    go_ret2
    exact ⟨rfl, hK1.trans (Keep.alloc [] _ _)⟩
  · have h1 : l ≤ i := by omega
    clear hi
    go_enter Tryz.func57, Tryz.ntmps57
    go_wp2_with (first | (go_at_call 46; refine HC.out.mono ?_; rintro e w1 ⟨rfl, hK1⟩; have hy := heap_alloc_new w1 (.cells #[.int .i64 k, .int .i64 c, .int .i64 l, .bool f] 68); obtain ⟨g0, g1, g2, g3⟩ := four_cells hy))
    go_ret2
    exact ⟨rfl, hK1.trans (Keep.alloc [] _ _)⟩
set_option maxRecDepth 100000 in
set_option maxHeartbeats 1600000 in
theorem oplace_yes (pv : Option Addr) (b j : Nat) (k c l : Int) (f : Bool) (w : World) (hc : Calls Tryz.prog 46 #[.pointer pv, .int .i64 b] w fun e w' => e = .returned (.tuple #[.agg #[.int .i64 k, .int .i64 c, .int .i64 l, .bool f], .int .i64 0]) ∧ Keep [] w w') (hj : (j : Int) < l) (hb : b ≤ 20000) (hl : l ≤ 1023) :
    Calls Tryz.prog 57 #[.pointer pv, .int .i64 b, .int .i64 j] w fun e w' => e = .returned (.tuple #[.int .i64 ((b + 1 + j : Nat) : Int), .int .i64 0]) ∧ Keep [] w w' := by
  have HC := (show Hid (Calls Tryz.prog 46 #[.pointer pv, .int .i64 b] w fun e w' => e = .returned (.tuple #[.agg #[.int .i64 k, .int .i64 c, .int .i64 l, .bool f], .int .i64 0]) ∧ Keep [] w w') from hc)
  have hd : decide (l ≤ (j : Int)) = false := by rw [decide_eq_false_iff_not]; omega
  have hd0 : decide ((j : Int) < 0) = false := by rw [decide_eq_false_iff_not]; omega
  clear hc
  go_enter Tryz.func57, Tryz.ntmps57
  go_wp2_with (first | (go_at_call 46; refine HC.out.mono ?_; rintro e w1 ⟨rfl, hK1⟩; have hy := heap_alloc_new w1 (.cells #[.int .i64 k, .int .i64 c, .int .i64 l, .bool f] 68); obtain ⟨g0, g1, g2, g3⟩ := four_cells hy))
  go_ret2
  exact ⟨by go_num, hK1.trans (Keep.alloc [] _ _)⟩
theorem oplace (a i : Int) (p : Nat) (E : Int) (w : World) (h : Has w0 F0 (heapA hb ws kd ds) w) (hT : PlaceT kd ws a i p E) :
    Calls Tryz.prog 57 #[.pointer (some ⟨hb, 0, none⟩), .int .i64 a, .int .i64 i] w fun e w' => e = .returned (.tuple #[.int .i64 p, .int .i64 E]) ∧ Keep [] w w' := by
  cases hT with
  | none hn => exact oplace_head _ a i _ _ _ _ _ w (ohead a _ _ _ _ _ w h (.no hn)) (by omega)
  | arg b m k c l f hA hi => exact oplace_arg _ a i _ _ _ _ w (ohead a _ _ _ _ _ w h (.yes b m k c l f hA)) hi
  | yes b m j k c l f hA e hj hl =>
    obtain ⟨rfl, e1, e2, e3, e4, e5⟩ := hA.facts h.fine.wf
    subst e
    have := hA.2.2.bd
    exact oplace_yes _ b j k c l f w (ohead b _ _ _ _ _ w h (.yes b m k c l f hA)) hj (by omega) (by omega)

set_option maxHeartbeats 1600000 in
theorem ofield_no (pv : Option Addr) (a i E : Int) (w : World) (hc : Calls Tryz.prog 57 #[.pointer pv, .int .i64 a, .int .i64 i] w fun e w' => e = .returned (.tuple #[.int .i64 0, .int .i64 E]) ∧ Keep [] w w') (hE : E ≠ 0) :
    Calls Tryz.prog 69 #[.pointer pv, .int .i64 a, .int .i64 i] w fun e w' => e = .returned (.tuple #[.int .i64 0, .int .i64 E]) ∧ Keep [] w w' := by
  have HC := (show Hid (Calls Tryz.prog 57 #[.pointer pv, .int .i64 a, .int .i64 i] w fun e w' => e = .returned (.tuple #[.int .i64 0, .int .i64 E]) ∧ Keep [] w w') from hc)
  have hd : (E == 0) = false := by simpa using hE
  clear hc
  go_enter Tryz.func69, Tryz.ntmps69
  go_wp2_with (first | (go_at_call 57; refine HC.out.mono ?_; rintro e w1 ⟨rfl, hK1⟩))
  go_ret2
  exact ⟨rfl, hK1⟩
set_option maxHeartbeats 1600000 in
theorem ofield (a i N E : Int) (w : World) (h : Has w0 F0 (heapA hb ws kd ds) w) (hT : FieldT kd ws a i N E) :
    Calls Tryz.prog 69 #[.pointer (some ⟨hb, 0, none⟩), .int .i64 a, .int .i64 i] w fun e w' => e = .returned (.tuple #[.int .i64 N, .int .i64 E]) ∧ Keep [] w w' := by
  cases hT with
  | no E hp hE => exact ofield_no _ a i E w (oplace a i 0 E w h hp) (by omega)
  | yes p hp hlt =>
    obtain ⟨sb, tb, hr⟩ := h.raw
    have HC := (show Hid (Calls Tryz.prog 57 #[.pointer (some ⟨hb, 0, none⟩), .int .i64 a, .int .i64 i] w fun e w' => e = .returned (.tuple #[.int .i64 p, .int .i64 0]) ∧ Keep [] w w') from oplace a i p 0 w h hp)
    have HR := (show Hid (Has w0 F0 (rawA hb sb tb ws kd ds) w) from hr)
    obtain ⟨x, hx'⟩ : ∃ x, ws[p]?.getD 0 = x := ⟨_, rfl⟩
    have HV := (show Hid (ws[p]?.getD 0 = x) from hx')
    rw [hx']
    clear hr h hp hx'
    go_enter Tryz.func69, Tryz.ntmps69
    go_wp2_with (first | (go_at_call 57; refine HC.out.mono ?_; rintro e w1 ⟨rfl, hK1⟩; obtain ⟨c0, _, ⟨ab, ag, c2, hAr⟩, _, _⟩ := (HR.out.keep0 hK1).cells) | (go_at_call 75; refine (xload _ ab ag p hAr hlt).mono ?_; rw [HV.out]; rintro e w' ⟨rfl, rfl⟩))
    go_ret2
    exact ⟨rfl, hK1⟩
set_option maxHeartbeats 1600000 in
theorem oput_no (pv : Option Addr) (a i x E : Int) (w : World) (hc : Calls Tryz.prog 57 #[.pointer pv, .int .i64 a, .int .i64 i] w fun e w' => e = .returned (.tuple #[.int .i64 0, .int .i64 E]) ∧ Keep [] w w') (hE : E ≠ 0) :
    Calls Tryz.prog 27 #[.pointer pv, .int .i64 a, .int .i64 i, .int .i64 x] w fun e w' => e = .returned (.int .i64 E) ∧ Keep [] w w' := by
  have HC := (show Hid (Calls Tryz.prog 57 #[.pointer pv, .int .i64 a, .int .i64 i] w fun e w' => e = .returned (.tuple #[.int .i64 0, .int .i64 E]) ∧ Keep [] w w') from hc)
  have hd : (E == 0) = false := by simpa using hE
  clear hc
  go_enter Tryz.func27, Tryz.ntmps27
  go_wp2_with (first | (go_at_call 57; refine HC.out.mono ?_; rintro e w1 ⟨rfl, hK1⟩))
  go_ret
  exact ⟨rfl, hK1⟩
set_option maxHeartbeats 1600000 in
theorem oput (a i x E : Int) (ws' : List Int) (w : World) (h : Has w0 F0 (heapA hb ws kd ds) w) (hT : PutT kd ws a i x E ws') (hx : inI x) :
    Calls Tryz.prog 27 #[.pointer (some ⟨hb, 0, none⟩), .int .i64 a, .int .i64 i, .int .i64 x] w fun e w' => e = .returned (.int .i64 E) ∧ Has w0 F0 (heapA hb ws' kd ds) w' := by
  have hfin := hT.fine h.fine hx
  cases hT with
  | no E hp hE =>
    refine (oput_no _ a i x E w (oplace a i 0 E w h hp) (by omega)).mono ?_
    rintro e w' ⟨rfl, hK⟩
    exact ⟨rfl, h.keep0 hK⟩
  | yes p hp hlt =>
    obtain ⟨sb, tb, hr⟩ := h.raw
    have HC := (show Hid (Calls Tryz.prog 57 #[.pointer (some ⟨hb, 0, none⟩), .int .i64 a, .int .i64 i] w fun e w' => e = .returned (.tuple #[.int .i64 p, .int .i64 0]) ∧ Keep [] w w') from oplace a i p 0 w h hp)
    have HR := (show Hid (Has w0 F0 (rawA hb sb tb ws kd ds) w) from hr)
    have HFI := (show Hid (Fine (ws.set p x) kd ds) from hfin)
    clear hr h hp hfin hx
    go_enter Tryz.func27, Tryz.ntmps27
    go_wp2_with (first | (go_at_call 57; refine HC.out.mono ?_; rintro e w1 ⟨rfl, hK1⟩; obtain ⟨c0, _, ⟨ab, ag, c2, hAr⟩, _, _⟩ := (HR.out.keep0 hK1).cells) | (go_at_call 58; refine (xstore _ ab p x (HR.out.keep0 hK1) c2 hlt).mono ?_; rintro e w2 ⟨rfl, hH2⟩))
    go_ret
    exact ⟨rfl, hH2.heap HFI.out⟩

/-! ### Heads -/
set_option maxHeartbeats 1600000 in
theorem osethead {sb tb : Nat} (b : Nat) (k c l : Int) (f : Bool) (w : World) (h : Has w0 F0 (rawA hb sb tb ws kd ds) w) (hm : mayH k c l f = true) (hlt : b < ws.length) :
    Calls Tryz.prog 55 #[.pointer (some ⟨hb, 0, none⟩), .int .i64 b, .agg #[.int .i64 k, .int .i64 c, .int .i64 l, .bool f]] w fun e w' => e = .returned (.int .i64 0) ∧ Has w0 F0 (rawA hb sb tb (ws.set b (putH k c l f)) kd ds) w' := by
  have hK := Keep.alloc [] w (.cells #[.int .i64 k, .int .i64 c, .int .i64 l, .bool f] 68)
  have hx := heap_alloc_new w (.cells #[.int .i64 k, .int .i64 c, .int .i64 l, .bool f] 68)
  obtain ⟨g0, g1, g2, g3⟩ := four_cells hx
  have HX := (show Hid (Has w0 F0 (rawA hb sb tb ws kd ds) (w.alloc (.cells #[.int .i64 k, .int .i64 c, .int .i64 l, .bool f] 68))) from h.keep0 hK)
  have HM := (show Hid (mayH k c l f = true) from hm)
  obtain ⟨x, hx'⟩ : ∃ x, putH k c l f = x := ⟨_, rfl⟩
  have HP := (show Hid (putN k c l f = x) from by show _ = _; unfold putN; rw [if_pos hm]; exact hx')
  rw [hx']
  clear h hm hx'
  go_enter Tryz.func55, Tryz.ntmps55
  go_wp2_with (first | (go_at_call 87; refine (hput_any k c l f _).mono ?_; rw [HP.out, HM.out]; rintro e w1 ⟨rfl, hK1⟩; obtain ⟨c0, _, ⟨ab, ag, c2, hAr⟩, _, _⟩ := (HX.out.keep0 hK1).cells) | (go_at_call 58; refine (xstore _ ab b x (HX.out.keep0 hK1) c2 hlt).mono ?_; rintro e w2 ⟨rfl, hH2⟩))
  go_ret
  exact ⟨rfl, hH2⟩

end

end Go.Proofs.YtgpidokklhjfdaaGreat

/-
  Package object: what fits, Make, Final and New answer and leave.
-/
namespace Go.Proofs.YtgpidokklhjfdaaGreat
open Go.RowKit

theorem two_cells {w : World} {b : Nat} {t : TypeId} {a0 a1 : Value} (h : w.heap[b]? = some (.cells #[a0, a1] t (0, 0))) : w.cell? ⟨b, 0, none⟩ = some a0 ∧ w.cell? ⟨b, 1, none⟩ = some a1 := by
  refine ⟨?_, ?_⟩ <;> simp [World.cell?, h]
theorem two_free {w : World} {b : Nat} {t : TypeId} {a0 a1 : Value} (h : w.heap[b]? = some (.cells #[a0, a1] t (0, 0))) : w.frozen? ⟨b, 0, none⟩ = false ∧ w.frozen? ⟨b, 1, none⟩ = false := by
  refine ⟨?_, ?_⟩ <;> simp [World.frozen?, h]
theorem two_put {w : World} {b : Nat} {t : TypeId} {a0 a1 : Value} (h : w.heap[b]? = some (.cells #[a0, a1] t (0, 0))) (b0 b1 : Value) :
    ((w.setCell ⟨b, 0, none⟩ b0).setCell ⟨b, 1, none⟩ b1).heap[b]? = some (.cells #[b0, b1] t (0, 0)) ∧ Keep [b] w ((w.setCell ⟨b, 0, none⟩ b0).setCell ⟨b, 1, none⟩ b1) := by
  have z1 := heap_setCell_same w b 0 _ _ b0 h
  have z2 := heap_setCell_same _ b 1 _ _ b1 z1
  exact ⟨by simpa using z2, (Keep.setCell _ _ (by simp)).trans (Keep.setCell _ _ (by simp))⟩
section
variable {w0 : World} {F0 : List Nat} {hb : Nat} {ws : List Int} {kd : List PK} {ds : List (Int × List Int)}

set_option maxHeartbeats 1600000 in
theorem ofits_other (pv : Option Addr) (k c l : Int) (f : Bool) (w : World) (hk : k ≠ 1) :
    Calls Tryz.prog 53 #[.pointer pv, .agg #[.int .i64 k, .int .i64 c, .int .i64 l, .bool f]] w fun e w' => e = .returned (.int .i64 0) ∧ Keep [] w w' := by
  have hd : (k == 1) = false := by simpa using hk
  have hx := heap_alloc_new w (.cells #[.int .i64 k, .int .i64 c, .int .i64 l, .bool f] 68)
  obtain ⟨g0, g1, g2, g3⟩ := four_cells hx
  go_enter Tryz.func53, Tryz.ntmps53
  go_wp2_with fail
  go_ret
  exact ⟨rfl, Keep.alloc [] _ _⟩
set_option maxRecDepth 100000 in
set_option maxHeartbeats 1600000 in
theorem ofits_none {sb tb : Nat} (c l : Int) (f : Bool) (w : World) (h : Has w0 F0 (rawA hb sb tb ws kd ds) w) (hc : c < 1 ∨ (ds.length : Int) < c) :
    Calls Tryz.prog 53 #[.pointer (some ⟨hb, 0, none⟩), .agg #[.int .i64 1, .int .i64 c, .int .i64 l, .bool f]] w fun e w' => e = .returned (.int .i64 2) ∧ Keep [] w w' := by
  have hK := Keep.alloc [] w (.cells #[.int .i64 1, .int .i64 c, .int .i64 l, .bool f] 68)
  have hx := heap_alloc_new w (.cells #[.int .i64 1, .int .i64 c, .int .i64 l, .bool f] 68)
  have h1 := h.keep0 hK
  clear h
  obtain ⟨g0, g1, g2, g3⟩ := four_cells hx
  go_enter Tryz.func53, Tryz.ntmps53
  go_upto_region 3 with fail
  generalize w.alloc (.cells #[.int .i64 1, .int .i64 c, .int .i64 l, .bool f] 68) = w1 at *
  obtain ⟨c0, c1, _⟩ := h1.cells
  obtain ⟨F, hT⟩ := h1.tab
  have HT := (show Hid (∀ w', Keep [] w1 w' → IsTab w' tb F ds) from fun w' K => hT.keep K (by simp))
  have hKz := (Keep.alloc [] w1 (.cells #[.int .i64 0, .slice none 0 0] 76)).trans (Keep.drew [] _)
  obtain ⟨b0, b1, _⟩ := (h1.keep0 hKz).cells
  obtain ⟨d0, d1, d2, d3⟩ := four_cells (hKz.blk hx (by simp))
  have hn1 := World.new_ne _ _ c1
  have hn2 := World.new_ne _ _ g1
  clear h1 hT
  go_region_law (first | (go_simp; refine (tclass_no tb F ds c _ (HT.out _ (by first | exact Keep.drew [] _ | exact (Keep.alloc [] _ _).trans (Keep.drew [] _))) hc).mono ?_; rintro e w2 ⟨rfl, hK2⟩; have hKe : Keep [] w1 w2 := (by first | exact (Keep.drew [] _).trans hK2 | exact ((Keep.alloc [] _ _).trans (Keep.drew [] _)).trans hK2); obtain ⟨q0, q1, q2, q3⟩ := four_cells (hKe.blk hx (by simp)); have hn3 : w2.heap.size ≠ w.heap.size := World.new_ne _ _ q1; have hn4 := hn3.symm; try (have hz := hK2.blk (heap_alloc_new w1 (.cells #[.int .i64 0, .slice none 0 0] 76)) (by simp); obtain ⟨u0, u1⟩ := two_cells hz; obtain ⟨v0, v1⟩ := two_free hz)))
  all_goals first
    | (obtain ⟨hz1, hk4⟩ := two_put hz (.int .i64 0) (.slice none 0 0)
       have hxz := hk4.blk (hKe.blk hx (by simp)) (by simpa using hn2.symm)
       have hKf := hK.trans (((hKe.mono (T := [w1.heap.size]) (by simp)).trans hk4).drop (by simp))
       clear hk4 hz u0 u1 v0 v1
       generalize (w2.setCell ⟨w1.heap.size, 0, none⟩ (.int .i64 0)).setCell ⟨w1.heap.size, 1, none⟩ (.slice none 0 0) = wz at *)
    | (have hxz := (Keep.alloc [] w2 (.cells #[.int .i64 0, .slice none 0 0] 76)).blk (hKe.blk hx (by simp)) (by simp)
       have hz1 := heap_alloc_new w2 (.cells #[.int .i64 0, .slice none 0 0] 76)
       have hKf := (hK.trans hKe).trans (Keep.alloc [] w2 (.cells #[.int .i64 0, .slice none 0 0] 76))
       generalize w2.alloc (.cells #[.int .i64 0, .slice none 0 0] 76) = wz at *)
  all_goals (obtain ⟨r0, r1, r2, r3⟩ := four_cells hxz; obtain ⟨t0, t1⟩ := two_cells hz1; clear hxz hz1 q0 q1 q2 q3 hKe hK2)
  all_goals (go_wp2_with fail)
  all_goals go_ret
  all_goals exact ⟨rfl, hKf⟩
set_option maxRecDepth 100000 in
set_option maxHeartbeats 1600000 in
theorem ofits_arg {sb tb : Nat} (i : Nat) (c l n : Int) (f : Bool) (L : List Int) (w : World) (h : Has w0 F0 (rawA hb sb tb ws kd ds) w) (hc : c = (i : Int) + 1) (hi : ds[i]? = some (n, L)) (hl : ds.length ≤ 256) (hne : l ≠ n) :
    Calls Tryz.prog 53 #[.pointer (some ⟨hb, 0, none⟩), .agg #[.int .i64 1, .int .i64 c, .int .i64 l, .bool f]] w fun e w' => e = .returned (.int .i64 1) ∧ Keep [] w w' := by
  have HCI := (show Hid (c = (i : Int) + 1) from hc)
  have hd : (l == n) = false := by simpa using hne
  clear hc
  have hK := Keep.alloc [] w (.cells #[.int .i64 1, .int .i64 c, .int .i64 l, .bool f] 68)
  have hx := heap_alloc_new w (.cells #[.int .i64 1, .int .i64 c, .int .i64 l, .bool f] 68)
  have h1 := h.keep0 hK
  clear h
  obtain ⟨g0, g1, g2, g3⟩ := four_cells hx
  go_enter Tryz.func53, Tryz.ntmps53
  go_upto_region 3 with fail
  generalize w.alloc (.cells #[.int .i64 1, .int .i64 c, .int .i64 l, .bool f] 68) = w1 at *
  obtain ⟨c0, c1, _⟩ := h1.cells
  obtain ⟨F, hT⟩ := h1.tab
  have HT := (show Hid (∀ w', Keep [] w1 w' → IsTab w' tb F ds) from fun w' K => hT.keep K (by simp))
  have hKz := (Keep.alloc [] w1 (.cells #[.int .i64 0, .slice none 0 0] 76)).trans (Keep.drew [] _)
  obtain ⟨b0, b1, _⟩ := (h1.keep0 hKz).cells
  obtain ⟨d0, d1, d2, d3⟩ := four_cells (hKz.blk hx (by simp))
  have hn1 := World.new_ne _ _ c1
  have hn2 := World.new_ne _ _ g1
  clear h1 hT
  go_region_law (first | (go_simp; refine (tclass_at tb i F ds n c L _ (HT.out _ (by first | exact Keep.drew [] _ | exact (Keep.alloc [] _ _).trans (Keep.drew [] _))) hi (by omega) HCI.out).mono ?_; rintro e w2 ⟨la, lc, rfl, HG, hK2⟩; have hKe : Keep [] w1 w2 := (by first | exact (Keep.drew [] _).trans hK2 | exact ((Keep.alloc [] _ _).trans (Keep.drew [] _)).trans hK2); obtain ⟨q0, q1, q2, q3⟩ := four_cells (hKe.blk hx (by simp)); have hn3 : w2.heap.size ≠ w.heap.size := World.new_ne _ _ q1; have hn4 := hn3.symm; try (have hz := hK2.blk (heap_alloc_new w1 (.cells #[.int .i64 0, .slice none 0 0] 76)) (by simp); obtain ⟨u0, u1⟩ := two_cells hz; obtain ⟨v0, v1⟩ := two_free hz)))
  all_goals first
    | (obtain ⟨hz1, hk4⟩ := two_put hz (.int .i64 n) (.slice la L.length lc)
       have hxz := hk4.blk (hKe.blk hx (by simp)) (by simpa using hn2.symm)
       have hKf := hK.trans (((hKe.mono (T := [w1.heap.size]) (by simp)).trans hk4).drop (by simp))
       clear hk4 hz u0 u1 v0 v1
       generalize (w2.setCell ⟨w1.heap.size, 0, none⟩ (.int .i64 n)).setCell ⟨w1.heap.size, 1, none⟩ (.slice la L.length lc) = wz at *)
    | (have hxz := (Keep.alloc [] w2 (.cells #[.int .i64 n, .slice la L.length lc] 76)).blk (hKe.blk hx (by simp)) (by simp)
       have hz1 := heap_alloc_new w2 (.cells #[.int .i64 n, .slice la L.length lc] 76)
       have hKf := (hK.trans hKe).trans (Keep.alloc [] w2 (.cells #[.int .i64 n, .slice la L.length lc] 76))
       generalize w2.alloc (.cells #[.int .i64 n, .slice la L.length lc] 76) = wz at *)
  all_goals (obtain ⟨r0, r1, r2, r3⟩ := four_cells hxz; obtain ⟨t0, t1⟩ := two_cells hz1; clear hxz hz1 q0 q1 q2 q3 hKe hK2)
  all_goals (go_wp2_with fail)
  all_goals go_ret
  all_goals exact ⟨rfl, hKf⟩
set_option maxRecDepth 100000 in
set_option maxHeartbeats 1600000 in
theorem ofits_yes {sb tb : Nat} (i : Nat) (c l n : Int) (f : Bool) (L : List Int) (w : World) (h : Has w0 F0 (rawA hb sb tb ws kd ds) w) (hc : c = (i : Int) + 1) (hi : ds[i]? = some (n, L)) (hl : ds.length ≤ 256) (hne : l = n) :
    Calls Tryz.prog 53 #[.pointer (some ⟨hb, 0, none⟩), .agg #[.int .i64 1, .int .i64 c, .int .i64 l, .bool f]] w fun e w' => e = .returned (.int .i64 0) ∧ Keep [] w w' := by
  have HCI := (show Hid (c = (i : Int) + 1) from hc)
  subst hne
  clear hc
  have hK := Keep.alloc [] w (.cells #[.int .i64 1, .int .i64 c, .int .i64 l, .bool f] 68)
  have hx := heap_alloc_new w (.cells #[.int .i64 1, .int .i64 c, .int .i64 l, .bool f] 68)
  have h1 := h.keep0 hK
  clear h
  obtain ⟨g0, g1, g2, g3⟩ := four_cells hx
  go_enter Tryz.func53, Tryz.ntmps53
  go_upto_region 3 with fail
  generalize w.alloc (.cells #[.int .i64 1, .int .i64 c, .int .i64 l, .bool f] 68) = w1 at *
  obtain ⟨c0, c1, _⟩ := h1.cells
  obtain ⟨F, hT⟩ := h1.tab
  have HT := (show Hid (∀ w', Keep [] w1 w' → IsTab w' tb F ds) from fun w' K => hT.keep K (by simp))
  have hKz := (Keep.alloc [] w1 (.cells #[.int .i64 0, .slice none 0 0] 76)).trans (Keep.drew [] _)
  obtain ⟨b0, b1, _⟩ := (h1.keep0 hKz).cells
  obtain ⟨d0, d1, d2, d3⟩ := four_cells (hKz.blk hx (by simp))
  have hn1 := World.new_ne _ _ c1
  have hn2 := World.new_ne _ _ g1
  clear h1 hT
  go_region_law (first | (go_simp; refine (tclass_at tb i F ds l c L _ (HT.out _ (by first | exact Keep.drew [] _ | exact (Keep.alloc [] _ _).trans (Keep.drew [] _))) hi (by omega) HCI.out).mono ?_; rintro e w2 ⟨la, lc, rfl, HG, hK2⟩; have hKe : Keep [] w1 w2 := (by first | exact (Keep.drew [] _).trans hK2 | exact ((Keep.alloc [] _ _).trans (Keep.drew [] _)).trans hK2); obtain ⟨q0, q1, q2, q3⟩ := four_cells (hKe.blk hx (by simp)); have hn3 : w2.heap.size ≠ w.heap.size := World.new_ne _ _ q1; have hn4 := hn3.symm; try (have hz := hK2.blk (heap_alloc_new w1 (.cells #[.int .i64 0, .slice none 0 0] 76)) (by simp); obtain ⟨u0, u1⟩ := two_cells hz; obtain ⟨v0, v1⟩ := two_free hz)))
  all_goals first
    | (obtain ⟨hz1, hk4⟩ := two_put hz (.int .i64 l) (.slice la L.length lc)
       have hxz := hk4.blk (hKe.blk hx (by simp)) (by simpa using hn2.symm)
       have hKf := hK.trans (((hKe.mono (T := [w1.heap.size]) (by simp)).trans hk4).drop (by simp))
       clear hk4 hz u0 u1 v0 v1
       generalize (w2.setCell ⟨w1.heap.size, 0, none⟩ (.int .i64 l)).setCell ⟨w1.heap.size, 1, none⟩ (.slice la L.length lc) = wz at *)
    | (have hxz := (Keep.alloc [] w2 (.cells #[.int .i64 l, .slice la L.length lc] 76)).blk (hKe.blk hx (by simp)) (by simp)
       have hz1 := heap_alloc_new w2 (.cells #[.int .i64 l, .slice la L.length lc] 76)
       have hKf := (hK.trans hKe).trans (Keep.alloc [] w2 (.cells #[.int .i64 l, .slice la L.length lc] 76))
       generalize w2.alloc (.cells #[.int .i64 l, .slice la L.length lc] 76) = wz at *)
  all_goals (obtain ⟨r0, r1, r2, r3⟩ := four_cells hxz; obtain ⟨t0, t1⟩ := two_cells hz1; clear hxz hz1 q0 q1 q2 q3 hKe hK2)
  all_goals (go_wp2_with fail)
  all_goals go_ret
  all_goals exact ⟨rfl, hKf⟩
theorem ofits {sb tb : Nat} (k c l E : Int) (f : Bool) (w : World) (h : Has w0 F0 (rawA hb sb tb ws kd ds) w) (hT : FitsT ds k c l E) (hl : ds.length ≤ 256) :
    Calls Tryz.prog 53 #[.pointer (some ⟨hb, 0, none⟩), .agg #[.int .i64 k, .int .i64 c, .int .i64 l, .bool f]] w fun e w' => e = .returned (.int .i64 E) ∧ Keep [] w w' := by
  cases hT with
  | other hk => exact ofits_other _ k c l f w hk
  | none hk hc => subst hk; exact ofits_none c l f w h hc
  | arg i n L hk hc hi hne => subst hk; exact ofits_arg i c l n f L w h hc hi hl hne
  | yes i L hk hc hi => subst hk; exact ofits_yes i c l l f L w h hc hi hl rfl

/-! ### Make -/
set_option maxRecDepth 100000 in
set_option maxHeartbeats 1600000 in
theorem omake_nil (k c l : Int) (f : Bool) (w : World) :
    Calls Tryz.prog 25 #[.pointer none, .agg #[.int .i64 k, .int .i64 c, .int .i64 l, .bool f]] w fun e w' => e = .returned (.tuple #[.int .i64 0, .int .i64 2]) ∧ Keep [] w w' := by
  go_enter Tryz.func25, Tryz.ntmps25
  go_wp2_with fail
  go_ret2
  exact ⟨rfl, Keep.alloc [] _ _⟩
set_option maxRecDepth 100000 in
set_option maxHeartbeats 1600000 in
theorem omake_arg (k c l : Int) (f : Bool) (w : World) (hm : (mayH k c l f && !f) = false) :
    Calls Tryz.prog 25 #[.pointer (some ⟨hb, 0, none⟩), .agg #[.int .i64 k, .int .i64 c, .int .i64 l, .bool f]] w fun e w' => e = .returned (.tuple #[.int .i64 0, .int .i64 1]) ∧ Keep [] w w' := by
  have hK := Keep.alloc [] w (.cells #[.int .i64 k, .int .i64 c, .int .i64 l, .bool f] 68)
  have hx := heap_alloc_new w (.cells #[.int .i64 k, .int .i64 c, .int .i64 l, .bool f] 68)
  obtain ⟨g0, g1, g2, g3⟩ := four_cells hx
  cases hm1 : mayH k c l f
  · have HM := (show Hid (mayH k c l f = false) from hm1)
    clear hm hm1
    go_enter Tryz.func25, Tryz.ntmps25
    go_wp2_with (first | (go_at_call 52; refine (hmay_any k c l f _).mono ?_; rw [HM.out]; rintro e w1 ⟨rfl, hK1⟩))
    go_ret2
    exact ⟨rfl, hK.trans hK1⟩
  · cases f
    · rw [hm1] at hm; cases hm
    · have HM := (show Hid (mayH k c l true = true) from hm1)
      clear hm hm1
      go_enter Tryz.func25, Tryz.ntmps25
      go_wp2_with (first | (go_at_call 52; refine (hmay_any k c l true _).mono ?_; rw [HM.out]; rintro e w1 ⟨rfl, hK1⟩; obtain ⟨d0, d1, d2, d3⟩ := four_cells (hK1.blk hx (by simp))))
      go_ret2
      exact ⟨rfl, hK.trans hK1⟩
set_option maxRecDepth 100000 in
set_option maxHeartbeats 1600000 in
theorem omake_fits {sb tb : Nat} (k c l E : Int) (w : World) (h : Has w0 F0 (rawA hb sb tb ws kd ds) w) (hm : mayH k c l false = true) (hT : FitsT ds k c l E) (hE : E ≠ 0) (hl : ds.length ≤ 256) :
    Calls Tryz.prog 25 #[.pointer (some ⟨hb, 0, none⟩), .agg #[.int .i64 k, .int .i64 c, .int .i64 l, .bool false]] w fun e w' => e = .returned (.tuple #[.int .i64 0, .int .i64 E]) ∧ Keep [] w w' := by
  have hK := Keep.alloc [] w (.cells #[.int .i64 k, .int .i64 c, .int .i64 l, .bool false] 68)
  have hx := heap_alloc_new w (.cells #[.int .i64 k, .int .i64 c, .int .i64 l, .bool false] 68)
  obtain ⟨g0, g1, g2, g3⟩ := four_cells hx
  have HX := (show Hid (Has w0 F0 (rawA hb sb tb ws kd ds) (w.alloc (.cells #[.int .i64 k, .int .i64 c, .int .i64 l, .bool false] 68))) from h.keep0 hK)
  have HM := (show Hid (mayH k c l false = true) from hm)
  have HT := (show Hid (FitsT ds k c l E) from hT)
  have hd : (E == 0) = false := by simpa using hE
  clear hm h hT
  go_enter Tryz.func25, Tryz.ntmps25
  go_wp2_with (first | (go_at_call 52; refine (hmay_any k c l false _).mono ?_; rw [HM.out]; rintro e w1 ⟨rfl, hK1⟩; obtain ⟨d0, d1, d2, d3⟩ := four_cells (hK1.blk hx (by simp))) | (go_at_call 53; refine (ofits k c l E false _ (HX.out.keep0 hK1) HT.out hl).mono ?_; rintro e w2 ⟨rfl, hK2⟩))
  go_ret2
  exact ⟨rfl, (hK.trans hK1).trans hK2⟩

end

end Go.Proofs.YtgpidokklhjfdaaGreat

/-
  The document's own heap: Head, Field, Put.
-/
namespace Go.Proofs.YtgpidokklhjfdaaGreat
open Go.RowKit

theorem cells3 {w : World} {b : Nat} {t : TypeId} {a0 a1 a2 : Value} (h : w.heap[b]? = some (.cells #[a0, a1, a2] t (0, 0))) :
    w.cell? ⟨b, 0, none⟩ = some a0 ∧ w.cell? ⟨b, 1, none⟩ = some a1 ∧ w.cell? ⟨b, 2, none⟩ = some a2 := by
  refine ⟨?_, ?_, ?_⟩ <;> simp [World.cell?, h]

section
variable {w0 : World} {F0 : List Nat} {hb : Nat} {ws : List Int} {kd : List PK} {ds : List (Int × List Int)}
set_option maxRecDepth 100000 in
set_option maxHeartbeats 1600000 in
theorem rhead_no {mb : Nat} (a : Int) (w : World) (h : Has w0 F0 (rrawA hb mb ws kd ds) w) (hw : WF kd) (hn : NotAt kd a) :
    Calls Tryz.prog 41 #[.pointer (some ⟨hb, 0, none⟩), .int .i64 a] w fun e w' => e = .returned (.agg #[.int .i64 0, .int .i64 0, .int .i64 0, .bool false, .bool false]) ∧ Keep [] w w' := by
  have hK := Keep.alloc [] w (.cells #[.int .i64 0, .int .i64 0, .int .i64 0, .bool false, .bool false] 97)
  have hx := heap_alloc_new w (.cells #[.int .i64 0, .int .i64 0, .int .i64 0, .bool false, .bool false] 97)
  have HX := (show Hid (Has w0 F0 (rrawA hb mb ws kd ds) (w.alloc (.cells #[.int .i64 0, .int .i64 0, .int .i64 0, .bool false, .bool false] 97))) from h.keep0 hK)
  have HW := (show Hid (WF kd) from hw)
  obtain ⟨c0, _⟩ := HX.out.rcells
  cases hf : findI kd a with
  | none =>
    have HF := (show Hid (findI kd a = none) from hf)
    clear h hw hf hn
    go_enter Tryz.func41, Tryz.ntmps41
    go_wp2_with (first | (go_at_call 70; refine (yfind _ a HX.out HW.out).mono ?_; rw [HF.out]; simp only [foundA]; rintro e w1 ⟨rfl, hK1⟩; have hx1 := (hK1.trans (Keep.alloc [] w1 (.cells #[.int .i64 0, .int .i64 0, .bool false] 133))).blk hx (by simp); obtain ⟨⟨f0, f1, f2, f3, f4⟩, d0, d1, d2, d3, d4⟩ := five_free hx1; obtain ⟨g0, g1, g2⟩ := cells3 (heap_alloc_new w1 (.cells #[.int .i64 0, .int .i64 0, .bool false] 133))))
    obtain ⟨z, hk4⟩ := five_put hx1 (.int .i64 0) (.int .i64 0) (.int .i64 0) (.bool false) (.bool false)
    refine bodyPost_ret (results_cell_row rfl _ _ w.heap.size 97 #[.int .i64 0, .int .i64 0, .int .i64 0, .bool false, .bool false] (0, 0) _ rfl z Tryz.underlying97 rfl (by kernel_rfl)) rfl ?_
    exact ⟨rfl, ((((hK.trans hK1).trans (Keep.alloc [] w1 _)).mono (T := [w.heap.size]) (by simp)).trans hk4).drop (by simp)⟩
  | some o =>
    obtain ⟨s, n⟩ := o
    have hsa : ¬ (s : Int) = a := hn s n hf
    have hsb : ((s : Int) == a) = false := by simpa using hsa
    have hsc : ((s : Int) != a) = true := by simpa using hsa
    have HF := (show Hid (findI kd a = some (s, n)) from hf)
    clear h hw hf hn
    go_enter Tryz.func41, Tryz.ntmps41
    go_wp2_with (first | (go_at_call 70; refine (yfind _ a HX.out HW.out).mono ?_; rw [HF.out]; simp only [foundA]; rintro e w1 ⟨rfl, hK1⟩; have hx1 := (hK1.trans (Keep.alloc [] w1 (.cells #[.int .i64 s, .int .i64 n, .bool true] 133))).blk hx (by simp); obtain ⟨⟨f0, f1, f2, f3, f4⟩, d0, d1, d2, d3, d4⟩ := five_free hx1; obtain ⟨g0, g1, g2⟩ := cells3 (heap_alloc_new w1 (.cells #[.int .i64 s, .int .i64 n, .bool true] 133))))
    obtain ⟨z, hk4⟩ := five_put hx1 (.int .i64 0) (.int .i64 0) (.int .i64 0) (.bool false) (.bool false)
    refine bodyPost_ret (results_cell_row rfl _ _ w.heap.size 97 #[.int .i64 0, .int .i64 0, .int .i64 0, .bool false, .bool false] (0, 0) _ rfl z Tryz.underlying97 rfl (by kernel_rfl)) rfl ?_
    exact ⟨rfl, ((((hK.trans hK1).trans (Keep.alloc [] w1 _)).mono (T := [w.heap.size]) (by simp)).trans hk4).drop (by simp)⟩
set_option maxRecDepth 100000 in
set_option maxHeartbeats 1600000 in
theorem rhead_yes {mb : Nat} (b m : Nat) (k c l : Int) (f : Bool) (w : World) (h : Has w0 F0 (rrawA hb mb ws kd ds) w) (hw : WF kd) (hA : At kd ws b b m k c l f) :
    Calls Tryz.prog 41 #[.pointer (some ⟨hb, 0, none⟩), .int .i64 b] w fun e w' => e = .returned (.agg #[.int .i64 k, .int .i64 c, .int .i64 l, .bool f, .bool true]) ∧ Keep [] w w' := by
  have hK := Keep.alloc [] w (.cells #[.int .i64 0, .int .i64 0, .int .i64 0, .bool false, .bool false] 97)
  have hx := heap_alloc_new w (.cells #[.int .i64 0, .int .i64 0, .int .i64 0, .bool false, .bool false] 97)
  have HX := (show Hid (Has w0 F0 (rrawA hb mb ws kd ds) (w.alloc (.cells #[.int .i64 0, .int .i64 0, .int .i64 0, .bool false, .bool false] 97))) from h.keep0 hK)
  have HW := (show Hid (WF kd) from hw)
  obtain ⟨c0, _⟩ := HX.out.rcells
  have HF := (show Hid (findI kd (b : Int) = some (b, m)) from (find_nat kd b).trans hA.2.1)
  obtain ⟨_, e1, e2, e3, e4, e5⟩ := hA.facts hw
  have hlt : b < 64 * kd.length := by omega
  have hlti : (b : Int) < ((64 * kd.length : Nat) : Int) := by omega
  obtain ⟨x, hx'⟩ : ∃ x, ws[b]?.getD 0 = x := ⟨_, rfl⟩
  have HV := (show Hid (ws[b]?.getD 0 = x) from hx')
  have hWd := hA.2.2
  rw [hx'] at hWd
  have HWD := (show Hid (Word x k c l f) from hWd)
  obtain ⟨n, hn⟩ : ∃ n, 64 * kd.length = n := ⟨_, rfl⟩
  have HN := (show Hid (64 * kd.length = n) from hn)
  rw [hn] at hlt hlti
  clear h hw hA hx' hWd e1 e2 e3 e4 e5 hn
  go_enter Tryz.func41, Tryz.ntmps41
  go_upto_region 4 with (first | (go_at_call 70; refine (yfind _ b HX.out HW.out).mono ?_; rw [HF.out]; simp only [foundA]; rintro e w1 ⟨rfl, hK1⟩; obtain ⟨g0, g1, g2⟩ := cells3 (heap_alloc_new w1 (.cells #[.int .i64 b, .int .i64 m, .bool true] 133))))
  have hKa := hK1.trans (Keep.alloc [] w1 (.cells #[.int .i64 b, .int .i64 m, .bool true] 133))
  have hx1 := hKa.blk hx (by simp)
  obtain ⟨q0, _, ⟨gw, q1, q2⟩, _⟩ := (HX.out.keep0 hKa).rcells
  have q3 := (q2 b (by rw [HN.out]; exact hlt)).1
  rw [HV.out] at q3
  rw [HN.out] at q1
  clear q2 g0 g1 g2
  generalize w1.alloc (.cells #[.int .i64 b, .int .i64 m, .bool true] 133) = w2 at *
  go_wp2_with (first | (go_at_call 71; refine (rgeth_yes x k c l f _ HWD.out).mono ?_; rintro e w3 ⟨rfl, hK3⟩; have hx3 := hK3.blk hx1 (by simp); obtain ⟨⟨f0, f1, f2, f3, f4⟩, d0, d1, d2, d3, d4⟩ := five_free hx3))
  obtain ⟨z, hk4⟩ := five_put hx3 (.int .i64 k) (.int .i64 c) (.int .i64 l) (.bool f) (.bool true)
  refine bodyPost_ret (results_cell_row rfl _ _ w.heap.size 97 #[.int .i64 k, .int .i64 c, .int .i64 l, .bool f, .bool true] (0, 0) _ rfl z Tryz.underlying97 rfl (by kernel_rfl)) rfl ?_
  exact ⟨rfl, ((((hK.trans hKa).trans hK3).mono (T := [w.heap.size]) (by simp)).trans hk4).drop (by simp)⟩
/-- Whether there is one, by the error of the other side. -/
def okE (E : Int) : Bool := E == 0
theorem rhead (a k c l E : Int) (f : Bool) (w : World) (h : Has w0 F0 (rheapA hb ws kd ds) w) (hT : HeadT kd ws a k c l f E) :
    Calls Tryz.prog 41 #[.pointer (some ⟨hb, 0, none⟩), .int .i64 a] w fun e w' => e = .returned (.agg #[.int .i64 k, .int .i64 c, .int .i64 l, .bool f, .bool (okE E)]) ∧ Keep [] w w' := by
  obtain ⟨mb, hr⟩ := h.rraw
  have hw := h.rfine.wf
  cases hT with
  | no hn => exact rhead_no a w hr hw hn
  | yes b m k c l f hA =>
    obtain ⟨rfl, _⟩ := hA.facts hw
    exact rhead_yes b m k c l f w hr hw hA

/-! ### Fields -/
set_option maxRecDepth 100000 in
set_option maxHeartbeats 1600000 in
theorem rfield_none (a i : Int) (k c l : Int) (f : Bool) (w : World) (hc : ∀ w1, Keep [] w w1 → Calls Tryz.prog 41 #[.pointer (some ⟨hb, 0, none⟩), .int .i64 a] w1 fun e w' => e = .returned (.agg #[.int .i64 k, .int .i64 c, .int .i64 l, .bool f, .bool false]) ∧ Keep [] w1 w') :
    Calls Tryz.prog 43 #[.pointer (some ⟨hb, 0, none⟩), .int .i64 a, .int .i64 i] w fun e w' => e = .returned (.agg #[.int .i64 0, .int .i64 2]) ∧ Keep [] w w' := by
  have hK := Keep.alloc [] w (.cells #[.int .i64 0, .int .i64 0] 73)
  have hx := heap_alloc_new w (.cells #[.int .i64 0, .int .i64 0] 73)
  have HC := (show Hid (∀ w1, Keep [] w w1 → Calls Tryz.prog 41 #[.pointer (some ⟨hb, 0, none⟩), .int .i64 a] w1 fun e w' => e = .returned (.agg #[.int .i64 k, .int .i64 c, .int .i64 l, .bool f, .bool false]) ∧ Keep [] w1 w') from hc)
  clear hc
  go_enter Tryz.func43, Tryz.ntmps43
  go_wp2_with (first | (go_at_call 41; refine (HC.out _ hK).mono ?_; rintro e w1 ⟨rfl, hK1⟩; have hx1 := (hK1.trans (Keep.alloc [] w1 (.cells #[.int .i64 k, .int .i64 c, .int .i64 l, .bool f, .bool false] 97))).blk hx (by simp); obtain ⟨f0, f1⟩ := two_free hx1; obtain ⟨d0, d1⟩ := two_cells hx1; obtain ⟨_, g0, g1, g2, g3, g4⟩ := five_free (heap_alloc_new w1 (.cells #[.int .i64 k, .int .i64 c, .int .i64 l, .bool f, .bool false] 97))))
  obtain ⟨z, hk4⟩ := two_put hx1 (.int .i64 0) (.int .i64 2)
  refine bodyPost_ret (results_cell_row rfl _ _ w.heap.size 73 #[.int .i64 0, .int .i64 2] (0, 0) _ rfl z Tryz.underlying73 rfl (by kernel_rfl)) rfl ?_
  exact ⟨rfl, ((((hK.trans hK1).trans (Keep.alloc [] w1 _)).mono (T := [w.heap.size]) (by simp)).trans hk4).drop (by simp)⟩
set_option maxRecDepth 100000 in
set_option maxHeartbeats 1600000 in
theorem rfield_arg (a i : Int) (k c l : Int) (f : Bool) (w : World) (hc : ∀ w1, Keep [] w w1 → Calls Tryz.prog 41 #[.pointer (some ⟨hb, 0, none⟩), .int .i64 a] w1 fun e w' => e = .returned (.agg #[.int .i64 k, .int .i64 c, .int .i64 l, .bool f, .bool true]) ∧ Keep [] w1 w') (hi : ¬ (0 ≤ i ∧ i < l)) :
    Calls Tryz.prog 43 #[.pointer (some ⟨hb, 0, none⟩), .int .i64 a, .int .i64 i] w fun e w' => e = .returned (.agg #[.int .i64 0, .int .i64 1]) ∧ Keep [] w w' := by
  have hK := Keep.alloc [] w (.cells #[.int .i64 0, .int .i64 0] 73)
  have hx := heap_alloc_new w (.cells #[.int .i64 0, .int .i64 0] 73)
  have HC := (show Hid (∀ w1, Keep [] w w1 → Calls Tryz.prog 41 #[.pointer (some ⟨hb, 0, none⟩), .int .i64 a] w1 fun e w' => e = .returned (.agg #[.int .i64 k, .int .i64 c, .int .i64 l, .bool f, .bool true]) ∧ Keep [] w1 w') from hc)
  clear hc
  by_cases h0 : i < 0
  · clear hi
    go_enter Tryz.func43, Tryz.ntmps43
    go_wp2_with (first | (go_at_call 41; refine (HC.out _ hK).mono ?_; rintro e w1 ⟨rfl, hK1⟩; have hx1 := (hK1.trans (Keep.alloc [] w1 (.cells #[.int .i64 k, .int .i64 c, .int .i64 l, .bool f, .bool true] 97))).blk hx (by simp); obtain ⟨f0, f1⟩ := two_free hx1; obtain ⟨d0, d1⟩ := two_cells hx1; obtain ⟨_, g0, g1, g2, g3, g4⟩ := five_free (heap_alloc_new w1 (.cells #[.int .i64 k, .int .i64 c, .int .i64 l, .bool f, .bool true] 97))))
    obtain ⟨z, hk4⟩ := two_put hx1 (.int .i64 0) (.int .i64 1)
    refine bodyPost_ret (results_cell_row rfl _ _ w.heap.size 73 #[.int .i64 0, .int .i64 1] (0, 0) _ rfl z Tryz.underlying73 rfl (by kernel_rfl)) rfl ?_
    exact ⟨rfl, ((((hK.trans hK1).trans (Keep.alloc [] w1 _)).mono (T := [w.heap.size]) (by simp)).trans hk4).drop (by simp)⟩
  · have h1 : l ≤ i := by omega
    clear hi
    go_enter Tryz.func43, Tryz.ntmps43
    go_wp2_with (first | (go_at_call 41; refine (HC.out _ hK).mono ?_; rintro e w1 ⟨rfl, hK1⟩; have hx1 := (hK1.trans (Keep.alloc [] w1 (.cells #[.int .i64 k, .int .i64 c, .int .i64 l, .bool f, .bool true] 97))).blk hx (by simp); obtain ⟨f0, f1⟩ := two_free hx1; obtain ⟨d0, d1⟩ := two_cells hx1; obtain ⟨_, g0, g1, g2, g3, g4⟩ := five_free (heap_alloc_new w1 (.cells #[.int .i64 k, .int .i64 c, .int .i64 l, .bool f, .bool true] 97))))
    obtain ⟨z, hk4⟩ := two_put hx1 (.int .i64 0) (.int .i64 1)
    refine bodyPost_ret (results_cell_row rfl _ _ w.heap.size 73 #[.int .i64 0, .int .i64 1] (0, 0) _ rfl z Tryz.underlying73 rfl (by kernel_rfl)) rfl ?_
    exact ⟨rfl, ((((hK.trans hK1).trans (Keep.alloc [] w1 _)).mono (T := [w.heap.size]) (by simp)).trans hk4).drop (by simp)⟩
set_option maxRecDepth 100000 in
set_option maxHeartbeats 1600000 in
theorem rfield_yes {mb : Nat} (b j p n : Nat) (x k c l : Int) (f : Bool) (w : World) (h : Has w0 F0 (rrawA hb mb ws kd ds) w) (hc : ∀ w1, Keep [] w w1 → Calls Tryz.prog 41 #[.pointer (some ⟨hb, 0, none⟩), .int .i64 b] w1 fun e w' => e = .returned (.agg #[.int .i64 k, .int .i64 c, .int .i64 l, .bool f, .bool true]) ∧ Keep [] w1 w') (hj : (j : Int) < l) (hb0 : b ≤ 20000) (hl : l ≤ 1023) (hp : b + 1 + j = p) (hn : 64 * kd.length = n) (hpn : p < n) (hx : ws[p]?.getD 0 = x) :
    Calls Tryz.prog 43 #[.pointer (some ⟨hb, 0, none⟩), .int .i64 b, .int .i64 j] w fun e w' => e = .returned (.agg #[.int .i64 x, .int .i64 0]) ∧ Keep [] w w' := by
  have hK := Keep.alloc [] w (.cells #[.int .i64 0, .int .i64 0] 73)
  have hy := heap_alloc_new w (.cells #[.int .i64 0, .int .i64 0] 73)
  have HC := (show Hid (∀ w1, Keep [] w w1 → Calls Tryz.prog 41 #[.pointer (some ⟨hb, 0, none⟩), .int .i64 b] w1 fun e w' => e = .returned (.agg #[.int .i64 k, .int .i64 c, .int .i64 l, .bool f, .bool true]) ∧ Keep [] w1 w') from hc)
  have HX := (show Hid (Has w0 F0 (rrawA hb mb ws kd ds) w) from h)
  have HN := (show Hid (64 * kd.length = n) from hn)
  have HV := (show Hid (ws[p]?.getD 0 = x) from hx)
  have hd : decide (l ≤ (j : Int)) = false := by rw [decide_eq_false_iff_not]; omega
  have hd0 : decide ((j : Int) < 0) = false := by rw [decide_eq_false_iff_not]; omega
  have hpi : (b : Int) + 1 + j = p := by omega
  have hpb : (p : Int) < n := by omega
  clear hc h hn hx hp
  go_enter Tryz.func43, Tryz.ntmps43
  go_upto_region 6 with (first | (go_at_call 41; refine (HC.out _ hK).mono ?_; rintro e w1 ⟨rfl, hK1⟩; obtain ⟨_, g0, g1, g2, g3, g4⟩ := five_free (heap_alloc_new w1 (.cells #[.int .i64 k, .int .i64 c, .int .i64 l, .bool f, .bool true] 97))))
  have hKa := (hK.trans hK1).trans (Keep.alloc [] w1 (.cells #[.int .i64 k, .int .i64 c, .int .i64 l, .bool f, .bool true] 97))
  have hx1 := (hK1.trans (Keep.alloc [] w1 (.cells #[.int .i64 k, .int .i64 c, .int .i64 l, .bool f, .bool true] 97))).blk hy (by simp)
  obtain ⟨q0, _, ⟨gw, q1, q2⟩, _⟩ := (HX.out.keep0 hKa).rcells
  have q3 := (q2 p (by rw [HN.out]; exact hpn)).1
  rw [HV.out] at q3
  rw [HN.out] at q1
  clear q2 g0 g1 g2 g3 g4
  generalize w1.alloc (.cells #[.int .i64 k, .int .i64 c, .int .i64 l, .bool f, .bool true] 97) = w2 at *
  obtain ⟨f0, f1⟩ := two_free hx1
  obtain ⟨d0, d1⟩ := two_cells hx1
  go_wp2_with fail
  obtain ⟨z, hk4⟩ := two_put hx1 (.int .i64 x) (.int .i64 0)
  refine bodyPost_ret (results_cell_row rfl _ _ w.heap.size 73 #[.int .i64 x, .int .i64 0] (0, 0) _ rfl z Tryz.underlying73 rfl (by kernel_rfl)) rfl ?_
  exact ⟨rfl, ((hKa.mono (T := [w.heap.size]) (by simp)).trans hk4).drop (by simp)⟩
theorem placeT_no {a i E : Int} {p : Nat} (hp : PlaceT kd ws a i p E) (hE : E = 1 ∨ E = 2) : (E = 2 ∧ NotAt kd a) ∨ (E = 1 ∧ ∃ b m k c l f, At kd ws a b m k c l f ∧ ¬ (0 ≤ i ∧ i < l)) := by
  cases hp with
  | none hn => exact .inl ⟨rfl, hn⟩
  | arg b m k c l f hA hi => exact .inr ⟨rfl, b, m, k, c, l, f, hA, hi⟩
  | yes b m j k c l f hA e hj hl => omega
theorem rfield (a i N E : Int) (w : World) (h : Has w0 F0 (rheapA hb ws kd ds) w) (hT : FieldT kd ws a i N E) :
    Calls Tryz.prog 43 #[.pointer (some ⟨hb, 0, none⟩), .int .i64 a, .int .i64 i] w fun e w' => e = .returned (.agg #[.int .i64 N, .int .i64 E]) ∧ Keep [] w w' := by
  have hf := h.rfine
  cases hT with
  | no E hp hE =>
    rcases placeT_no hp hE with ⟨rfl, hn⟩ | ⟨rfl, b, m, k, c, l, f, hA, hi⟩
    · exact rfield_none a i _ _ _ _ w (fun w1 K => rhead a _ _ _ _ _ w1 (h.keep0 K) (.no hn))
    · exact rfield_arg a i _ _ _ _ w (fun w1 K => rhead a _ _ _ _ _ w1 (h.keep0 K) (.yes b m k c l f hA)) hi
  | yes p hp hlt =>
    obtain ⟨mb, hr⟩ := h.rraw
    cases hp with
    | yes b m j k c l f hA e hj hl =>
      obtain ⟨rfl, e1, e2, e3, e4, e5⟩ := hA.facts hf.wf
      subst e
      have := hA.2.2.bd
      exact rfield_yes b j _ _ _ k c l f w hr (fun w1 K => rhead b _ _ _ _ _ w1 (h.keep0 K) (.yes b m k c l f hA)) hj (by omega) (by omega) rfl rfl (by rw [← hf.len]; exact hlt) rfl

set_option maxRecDepth 100000 in
set_option maxHeartbeats 1600000 in
theorem rput_no (a i x N E : Int) (w : World) (hc : Calls Tryz.prog 43 #[.pointer (some ⟨hb, 0, none⟩), .int .i64 a, .int .i64 i] w fun e w' => e = .returned (.agg #[.int .i64 N, .int .i64 E]) ∧ Keep [] w w') (hE : E ≠ 0) :
    Calls Tryz.prog 31 #[.pointer (some ⟨hb, 0, none⟩), .int .i64 a, .int .i64 i, .int .i64 x] w fun e w' => e = .returned (.int .i64 E) ∧ Keep [] w w' := by
  have HC := (show Hid (Calls Tryz.prog 43 #[.pointer (some ⟨hb, 0, none⟩), .int .i64 a, .int .i64 i] w fun e w' => e = .returned (.agg #[.int .i64 N, .int .i64 E]) ∧ Keep [] w w') from hc)
  have hd : (E == 0) = false := by simpa using hE
  clear hc
  go_enter Tryz.func31, Tryz.ntmps31
  go_wp2_with (first | (go_at_call 43; refine HC.out.mono ?_; rintro e w1 ⟨rfl, hK1⟩; obtain ⟨d0, d1⟩ := two_cells (heap_alloc_new w1 (.cells #[.int .i64 N, .int .i64 E] 73))))
  go_ret
  exact ⟨rfl, hK1.trans (Keep.alloc [] _ _)⟩
set_option maxRecDepth 100000 in
set_option maxHeartbeats 1600000 in
theorem rput_yes {mb : Nat} (b j p n : Nat) (x y : Int) (w : World) (h : Has w0 F0 (rrawA hb mb ws kd ds) w) (hc : Calls Tryz.prog 43 #[.pointer (some ⟨hb, 0, none⟩), .int .i64 b, .int .i64 j] w fun e w' => e = .returned (.agg #[.int .i64 y, .int .i64 0]) ∧ Keep [] w w') (hb0 : b ≤ 20000) (hj : j ≤ 1023) (hp : b + 1 + j = p) (hn : 64 * kd.length = n) (hpn : p < n) :
    Calls Tryz.prog 31 #[.pointer (some ⟨hb, 0, none⟩), .int .i64 b, .int .i64 j, .int .i64 x] w fun e w' => e = .returned (.int .i64 0) ∧ Has w0 F0 (rrawA hb mb (ws.set p x) kd ds) w' := by
  have HC := (show Hid (Calls Tryz.prog 43 #[.pointer (some ⟨hb, 0, none⟩), .int .i64 b, .int .i64 j] w fun e w' => e = .returned (.agg #[.int .i64 y, .int .i64 0]) ∧ Keep [] w w') from hc)
  have HX := (show Hid (Has w0 F0 (rrawA hb mb ws kd ds) w) from h)
  have HN := (show Hid (64 * kd.length = n) from hn)
  have hpi : (b : Int) + 1 + j = p := by omega
  have hpb : (p : Int) < n := by omega
  clear hc h hn hp
  go_enter Tryz.func31, Tryz.ntmps31
  go_upto_region 3 with (first | (go_at_call 43; refine HC.out.mono ?_; rintro e w1 ⟨rfl, hK1⟩; obtain ⟨d0, d1⟩ := two_cells (heap_alloc_new w1 (.cells #[.int .i64 y, .int .i64 0] 73))))
  have hKa := hK1.trans (Keep.alloc [] w1 (.cells #[.int .i64 y, .int .i64 0] 73))
  have hx1 := heap_alloc_new w1 (.cells #[.int .i64 y, .int .i64 0] 73)
  have h2 := HX.out.keep0 hKa
  have hs1 := hK1.size
  obtain ⟨q0, _, ⟨gw, q1, q2⟩, _⟩ := h2.rcells
  have hgn : gw < w1.heap.size := by
    obtain ⟨_, _, ⟨gw', r1, r2⟩, _⟩ := (HX.out.keep0 hK1).rcells
    have e := ((Keep.alloc [] w1 (.cells #[.int .i64 y, .int .i64 0] 73)).cell (lt_of_cell2 r1) (by simp) 0).trans r1
    rw [q1] at e
    injection e with e
    injection e with e
    injection e with e
    injection e with e
    subst e
    exact lt_of_cell2 (r2 p (by rw [HN.out]; exact hpn)).1
  obtain ⟨q3, q4⟩ := q2 p (by rw [HN.out]; exact hpn)
  generalize ws[p]?.getD 0 = o at q3
  rw [HN.out] at q1
  have HS := (show Hid (Has w0 F0 (rrawA hb mb (ws.set p x) kd ds) ((w1.alloc (.cells #[.int .i64 y, .int .i64 0] 73)).setCell ⟨gw, p, none⟩ (.int .i64 x))) from h2.rset q1 p x)
  clear q2 d0 d1 h2
  generalize w1.alloc (.cells #[.int .i64 y, .int .i64 0] 73) = w2 at *
  obtain ⟨d0, d1⟩ := two_cells hx1
  have hne : gw ≠ w1.heap.size := by omega
  generalize w1.heap.size = bx at *
  go_wp2_with fail
  go_ret
  exact ⟨rfl, HS.out⟩
theorem rput (a i x E : Int) (ws' : List Int) (w : World) (h : Has w0 F0 (rheapA hb ws kd ds) w) (hT : PutT kd ws a i x E ws') (hx : inI x) :
    Calls Tryz.prog 31 #[.pointer (some ⟨hb, 0, none⟩), .int .i64 a, .int .i64 i, .int .i64 x] w fun e w' => e = .returned (.int .i64 E) ∧ Has w0 F0 (rheapA hb ws' kd ds) w' := by
  have hfin := hT.fine h.rfine hx
  have hf := h.rfine
  cases hT with
  | no E hp hE =>
    refine (rput_no a i x 0 E w (rfield a i 0 E w h (.no E hp hE)) (by omega)).mono ?_
    rintro e w' ⟨rfl, hK⟩
    exact ⟨rfl, h.keep0 hK⟩
  | yes p hp hlt =>
    obtain ⟨mb, hr⟩ := h.rraw
    have hc := rfield a i _ 0 w h (.yes p hp hlt)
    cases hp with
    | yes b m j k c l f hA e hj hl =>
      obtain ⟨rfl, e1, e2, e3, e4, e5⟩ := hA.facts hf.wf
      subst e
      have := hA.2.2.bd
      refine (rput_yes b j _ _ x _ w hr hc (by omega) (by omega) rfl rfl (by rw [← hf.len]; exact hlt)).mono ?_
      rintro e w' ⟨rfl, hX⟩
      exact ⟨rfl, hX.rheap hfin⟩
end

end Go.Proofs.YtgpidokklhjfdaaGreat
