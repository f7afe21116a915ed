/-
  Lists that roots and merges hand back, in memory that is new; what the eleventh folder's own helpers answer.
-/
import Derived.Test.YtiknghbfigophaaRefMerge
import Derived.Test.YtiknghbfigophaaRoot
import Derived.Test.YtiknghbfigophaaSame
namespace Go.Proofs.Ytiknghbfigophaa
open Go.RowKit

/-- A list of integers in memory younger than w0. -/
structure NewInts (w0 w : World) (va : Option Addr) (n vc : Nat) (L : List Int) : Prop where
  own : w.ownsRow w0.heap.size 3 1 (.slice va n vc) n (ints L)
  at' : IntsAt w va L
  len : L.length = n
  cap0 : va = none → vc = 0
  far : ∀ a, va = some a → w0.heap.size ≤ a.block ∧ a.block < w.heap.size
theorem NewInts.of {w0 w : World} {v : Value} {n : Nat} {L : List Int} (h : w.ownsRow w0.heap.size 3 1 v n (ints L)) (hb : ∀ i : Nat, -9223372036854775808 ≤ L[i]?.getD 0 ∧ L[i]?.getD 0 ≤ 9223372036854775807) :
    ∃ va vc, v = .slice va n vc ∧ NewInts w0 w va n vc L := by
  have h0 := h
  rcases own_ints h hb with ⟨rfl, rfl, rfl⟩ | ⟨g, cap, rfl, rfl, h1, h2, h3⟩
  · exact ⟨none, 0, rfl, h0, IntsAt.nil _ _, rfl, fun _ => rfl, fun a e => by cases e⟩
  · exact ⟨some ⟨g, 0, none⟩, cap, rfl, h0, h3, rfl, (fun e => by cases e), fun a e => by cases e; exact ⟨h1, h2⟩⟩
theorem NewInts.keep {S : List Nat} {w0 w w' : World} {va : Option Addr} {n vc : Nat} {L : List Int} (h : NewInts w0 w va n vc L) (k : Keep S w w') (hS : ∀ x, x ∈ S → x < w0.heap.size) : NewInts w0 w' va n vc L :=
  ⟨own_keep h.own k hS, h.at'.keep k (fun _ a e hs => by have := (h.far a e).1; have := hS _ hs; omega), h.len, h.cap0, fun a e => ⟨(h.far a e).1, Nat.lt_of_lt_of_le (h.far a e).2 k.size⟩⟩
theorem NewInts.keep0 {w0 w w' : World} {va : Option Addr} {n vc : Nat} {L : List Int} (h : NewInts w0 w va n vc L) (k : Keep [] w w') : NewInts w0 w' va n vc L := h.keep k (by simp)
theorem NewInts.base {w0 w1 w : World} {va : Option Addr} {n vc : Nat} {L : List Int} (h : NewInts w1 w va n vc L) (hs : w0.heap.size ≤ w1.heap.size) : NewInts w0 w va n vc L := ⟨own_base h.own hs, h.at', h.len, h.cap0, fun a e => ⟨Nat.le_trans hs (h.far a e).1, (h.far a e).2⟩⟩

theorem merge_l (ao : Option Addr) (n c m : Nat) (LL : List (List Int)) (M : List Int) (w : World) (h : ListsAt w ao LL) (hn : LL.length = n) (hf : LL.flatten.length ≤ 100000) (hn2 : n ≤ 100000) (hM : mergeL LL.flatten = M) (hm : M.length = m) :
    Calls Try.prog 14 #[.slice ao n c] w fun e w' => ∃ va vc, e = .returned (.slice va m vc) ∧ NewInts w w' va m vc M ∧ Keep [] w w' := by
  refine (merge_any ao n c LL w h hn hf hn2).mono ?_
  rintro e w' ⟨v, q, rfl, hO, hK⟩
  have hb : ∀ i : Nat, -9223372036854775808 ≤ (mergeL LL.flatten)[i]?.getD 0 ∧ (mergeL LL.flatten)[i]?.getD 0 ≤ 9223372036854775807 := mergeL_bd (fun x hx => (flat_bd h x hx).2)
  rw [hM] at hO hb
  obtain ⟨va, vc, rfl, hN⟩ := NewInts.of hO hb
  have := hN.len
  have hq : q = m := by rw [← hm, hN.len]
  subst hq
  exact ⟨va, vc, rfl, hN, hK⟩
theorem rmerge_l (ao : Option Addr) (n c m : Nat) (LL : List (List Int)) (M : List Int) (w : World) (h : ListsAt w ao LL) (hn : LL.length = n) (hf : LL.flatten.length ≤ 100000) (hn2 : n ≤ 100000) (hM : mergeL LL.flatten = M) (hm : M.length = m) :
    Calls Try.prog 15 #[.slice ao n c] w fun e w' => ∃ va vc, e = .returned (.slice va m vc) ∧ NewInts w w' va m vc M ∧ Keep [] w w' := by
  refine (rmerge ao n c LL w h hn hf hn2).mono ?_
  rintro e w' ⟨v, q, rfl, hO, hK⟩
  have hb : ∀ i : Nat, -9223372036854775808 ≤ (mergeL LL.flatten)[i]?.getD 0 ∧ (mergeL LL.flatten)[i]?.getD 0 ≤ 9223372036854775807 := mergeL_bd (fun x hx => (flat_bd h x hx).2)
  rw [hM] at hO hb
  obtain ⟨va, vc, rfl, hN⟩ := NewInts.of hO hb
  have hq : q = m := by rw [← hm, hN.len]
  subst hq
  exact ⟨va, vc, rfl, hN, hK⟩
theorem oroots_l (b : Nat) (xs : List Int) (w : World) (h : IsRoot w b xs) :
    Calls Try.prog 11 #[.pointer (some ⟨b, 0, none⟩)] w fun e w' => ∃ va vc, e = .returned (.slice va 16 vc) ∧ NewInts w w' va 16 vc xs ∧ Keep [] w w' := by
  refine (oroots b xs w h).mono ?_
  rintro e w' ⟨v, rfl, hO, hK⟩
  obtain ⟨va, vc, rfl, hN⟩ := NewInts.of hO (fun i => by have := h.bd i; omega)
  exact ⟨va, vc, rfl, hN, hK⟩

/-- A list of lists out of a block that is known whole. -/
theorem ListsAt.block {w : World} {B : Nat} {cs : List Value} {t : TypeId} {LL : List (List Int)} (h : w.heap[B]? = some (.cells cs.toArray t (0, 0))) (hc : ∀ (i : Nat) (L : List Int), LL[i]? = some L → ∃ xa c, cs[i]? = some (.slice xa L.length c) ∧ IntsAt w xa L) : ListsAt w (some ⟨B, 0, none⟩) LL := by
  refine ⟨fun h0 => ⟨B, 0, rfl, lt_of_block h, fun i L hi => ?_⟩⟩
  obtain ⟨xa, c, h1, h2⟩ := hc i L hi
  refine ⟨xa, c, ?_, h2⟩
  rw [Nat.zero_add]
  simp [World.cell?, h, h1]
theorem mergeL_is {L M : List Int} (hM : Up M) (h : ∀ x, x ∈ M ↔ x ∈ L ∧ 0 < x) : mergeL L = M := up_ext (mergeL_up L) hM (fun x => by rw [mergeL_mem, h])
theorem row_ints {w : World} {B : Nat} {t : TypeId} {L : List Int} (h : w.heap[B]? = some (.cells (ints L).toArray t (0, 0))) (hb : ∀ i : Nat, -9223372036854775808 ≤ L[i]?.getD 0 ∧ L[i]?.getD 0 ≤ 9223372036854775807) : IntsAt w (some ⟨B, 0, none⟩) L :=
  ⟨fun _ => ⟨B, 0, rfl, lt_of_block h, fun i hi => by rw [Nat.zero_add]; exact Row.cell (t := t) h hi⟩, fun i => (hb i).1, fun i => (hb i).2⟩
theorem bd_two (x y : Int) (hx : 0 ≤ x ∧ x ≤ 9) (hy : 0 ≤ y ∧ y ≤ 9) : ∀ i : Nat, -9223372036854775808 ≤ [x, y][i]?.getD 0 ∧ [x, y][i]?.getD 0 ≤ 9223372036854775807 := by
  intro i
  rcases i with _ | _ | i <;> simp <;> omega
theorem merge13 : mergeL [[3, 0], [1, 3]].flatten = [1, 3] := mergeL_is (by simp [Up]) (fun x => by simp; omega)

set_option maxHeartbeats 400000 in
theorem err_any (n : Int) (w : World) :
    Calls Try.prog 8 #[.int .i64 n] w fun e w' => e = .returned (.int .i64 n) ∧ w = w' := by
  go_enter Try.func8, Try.ntmps8
  go_wp2
  go_ret
  exact ⟨rfl, rfl⟩

theorem h3a (w : World) (o p q : Obj) : (((w.alloc o).alloc p).alloc q).heap[w.heap.size]? = some o := by
  rw [Below.heap_alloc _ _ _ (by simp; omega), Below.heap_alloc _ _ _ (by simp)]; exact heap_alloc_new w o
theorem h3b (w : World) (o p q : Obj) : (((w.alloc o).alloc p).alloc q).heap[w.heap.size + 1]? = some p := by
  rw [Below.heap_alloc _ _ _ (by simp)]
  have := heap_alloc_new (w.alloc o) p
  rw [World.size_alloc] at this
  exact this
theorem h3c (w : World) (o p q : Obj) : (((w.alloc o).alloc p).alloc q).heap[w.heap.size + 1 + 1]? = some q := by
  have := heap_alloc_new ((w.alloc o).alloc p) q
  rw [World.size_alloc, World.size_alloc] at this
  exact this
theorem lists_two {w : World} {B B1 B2 : Nat} {t : TypeId} {x y z u : Int} (h : w.heap[B]? = some (.cells #[.slice (some ⟨B1, 0, none⟩) 2 2, .slice (some ⟨B2, 0, none⟩) 2 2] t (0, 0))) (h1 : IntsAt w (some ⟨B1, 0, none⟩) [x, y]) (h2 : IntsAt w (some ⟨B2, 0, none⟩) [z, u]) : ListsAt w (some ⟨B, 0, none⟩) [[x, y], [z, u]] := by
  refine ListsAt.block (cs := [.slice (some ⟨B1, 0, none⟩) 2 2, .slice (some ⟨B2, 0, none⟩) 2 2]) h (fun i L hi => ?_)
  rcases i with _ | _ | i
  · simp at hi; subst hi; exact ⟨_, 2, rfl, h1⟩
  · simp at hi; subst hi; exact ⟨_, 2, rfl, h2⟩
  · simp at hi

set_option maxRecDepth 100000 in
set_option maxHeartbeats 3200000 in
theorem awake11_any (w : World) :
    Calls Try.prog 13 #[] w fun e w' => e = .returned (.bool true) ∧ Keep [] w w' := by
  go_enter Try.func13, Try.ntmps13
  go_wp2_with (first
    | (go_at_call 7; refine (onew_any _).mono ?_; rintro e w1 ⟨b, rfl, hI1, hK1, hb⟩)
    | (go_at_call 11; refine (oroots_l b _ _ hI1).mono ?_; rintro e w2 ⟨va, vc, rfl, hN2, hK2⟩)
    | fail)
  have hA := h3a w2 (.cells #[.int .i64 3, .int .i64 0] 3) (.cells #[.int .i64 1, .int .i64 3] 3) (.cells #[.slice (some ⟨w2.heap.size, 0, none⟩) 2 2, .slice (some ⟨w2.heap.size + 1, 0, none⟩) 2 2] 22)
  have hB := h3b w2 (.cells #[.int .i64 3, .int .i64 0] 3) (.cells #[.int .i64 1, .int .i64 3] 3) (.cells #[.slice (some ⟨w2.heap.size, 0, none⟩) 2 2, .slice (some ⟨w2.heap.size + 1, 0, none⟩) 2 2] 22)
  have hC := h3c w2 (.cells #[.int .i64 3, .int .i64 0] 3) (.cells #[.int .i64 1, .int .i64 3] 3) (.cells #[.slice (some ⟨w2.heap.size, 0, none⟩) 2 2, .slice (some ⟨w2.heap.size + 1, 0, none⟩) 2 2] 22)
  have hK3 : Keep [] w2 (((w2.alloc (.cells #[.int .i64 3, .int .i64 0] 3)).alloc (.cells #[.int .i64 1, .int .i64 3] 3)).alloc (.cells #[.slice (some ⟨w2.heap.size, 0, none⟩) 2 2, .slice (some ⟨w2.heap.size + 1, 0, none⟩) 2 2] 22)) := ((Keep.alloc [] _ _).trans (Keep.alloc [] _ _)).trans (Keep.alloc [] _ _)
  generalize ((w2.alloc (.cells #[.int .i64 3, .int .i64 0] 3)).alloc (.cells #[.int .i64 1, .int .i64 3] 3)).alloc (.cells #[.slice (some ⟨w2.heap.size, 0, none⟩) 2 2, .slice (some ⟨w2.heap.size + 1, 0, none⟩) 2 2] 22) = w3 at *
  have hL := lists_two hC (row_ints (L := [3, 0]) hA (bd_two 3 0 (by omega) (by omega))) (row_ints (L := [1, 3]) hB (bd_two 1 3 (by omega) (by omega)))
  refine (merge_l _ 2 2 2 [[3, 0], [1, 3]] [1, 3] w3 hL rfl (by simp) (by omega) merge13 rfl).mono ?_
  rintro e w4 ⟨vb, vd, rfl, hN4, hK4⟩
  have hKw := ((hK1.trans hK2).trans hK3).trans hK4
  clear hL hA hB hC hK3 hK4 hN2 hK1 hK2 hI1
  go_wp2_with (first | (go_at_call 12; refine (same_eq vb _ 2 vd 2 [1, 3] _ (hN4.keep0 (Keep.alloc [] _ _)).at' (row_ints (L := [1, 3]) (heap_alloc_new _ _) (bd_two 1 3 (by omega) (by omega))) rfl (by omega)).mono ?_; rintro e w6 ⟨rfl, hK6⟩))
  go_ret
  exact ⟨rfl, (hKw.trans (Keep.alloc [] _ _)).trans hK6⟩

end Go.Proofs.Ytiknghbfigophaa
