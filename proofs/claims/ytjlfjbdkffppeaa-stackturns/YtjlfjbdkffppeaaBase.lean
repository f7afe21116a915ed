/-
  Plain facts on worlds, rows of integers and frames; they speak of no program.
-/
import Derived.WalkKit
import Derived.WalkSpells
import Derived.WalkLawsBesides
import Derived.Deep.QuietTactic
import Derived.Deep.OwnRows
import Derived.BigQuiet
namespace Go.Proofs.Ytjlfjbdkffppeaa
open Go.RowKit

/-- Integers as cells. -/
def ints (xs : List Int) : List Value := xs.map (Value.int .i64)

theorem ints_length (xs : List Int) : (ints xs).length = xs.length := by simp [ints]
theorem ints_get (xs : List Int) (i : Nat) (h : i < xs.length) : (ints xs)[i]? = some (.int .i64 (xs[i]?.getD 0)) := by
  simp [ints, h]
theorem ints_set (xs : List Int) (i : Nat) (x : Int) : (ints xs).set i (.int .i64 x) = ints (xs.set i x) := by
  simp [ints, List.map_set]
/-- So many zeros. -/
def zeros (n : Nat) : List Int := List.replicate n 0
theorem zeros_length (n : Nat) : (zeros n).length = n := by simp [zeros]
theorem zeros_get (n i : Nat) : (zeros n)[i]?.getD 0 = 0 := by
  rw [zeros, List.getElem?_replicate]; split <;> rfl
theorem set_get_same (xs : List Int) (i : Nat) (x : Int) (h : i < xs.length) : (xs.set i x)[i]?.getD 0 = x := by
  simp [h]
theorem set_get_other (xs : List Int) (i j : Nat) (x : Int) (h : i ≠ j) : (xs.set i x)[j]?.getD 0 = xs[j]?.getD 0 := by
  simp [h]
theorem ints_made (n : Nat) : madeCells #[.int .i64 0] n = (ints (zeros n)).toArray := by
  apply Array.toList_inj.1
  rw [toList_madeCells_one]
  simp [ints, zeros]

/-- Of all blocks that there were, those that are not listed are as they were. -/
structure Keep (S : List Nat) (w w' : World) : Prop where
  os : w'.os = w.os
  tape : w'.tape = w.tape
  output : w'.output = w.output
  size : w.heap.size ≤ w'.heap.size
  block : ∀ k, k < w.heap.size → k ∉ S → w'.heap[k]? = w.heap[k]?

theorem Keep.refl (S : List Nat) (w : World) : Keep S w w := ⟨rfl, rfl, rfl, Nat.le_refl _, fun _ _ _ => rfl⟩
theorem Keep.trans {S : List Nat} {a b c : World} (h : Keep S a b) (k : Keep S b c) : Keep S a c :=
  ⟨k.os.trans h.os, k.tape.trans h.tape, k.output.trans h.output, Nat.le_trans h.size k.size, fun i hi hS => (k.block i (Nat.lt_of_lt_of_le hi h.size) hS).trans (h.block i hi hS)⟩
theorem Keep.mono {S T : List Nat} {w w' : World} (h : Keep S w w') (hS : ∀ k, k ∈ S → k ∈ T) : Keep T w w' :=
  ⟨h.os, h.tape, h.output, h.size, fun k hk hT => h.block k hk (fun e => hT (hS k e))⟩
/-- Blocks that were not there when it began need not be listed. -/
theorem Keep.drop {S T : List Nat} {w w' : World} (h : Keep S w w') (hS : ∀ k, k ∈ S → k < w.heap.size → k ∈ T) : Keep T w w' :=
  ⟨h.os, h.tape, h.output, h.size, fun k hk hT => h.block k hk (fun e => hT (hS k e hk))⟩
theorem Keep.drewN (S : List Nat) (w : World) (n : Nat) : Keep S w (w.drewN n) := ⟨rfl, rfl, rfl, Nat.le_refl _, fun _ _ _ => rfl⟩
theorem Keep.drew (S : List Nat) (w : World) : Keep S w w.drew := ⟨rfl, rfl, rfl, Nat.le_refl _, fun _ _ _ => rfl⟩
theorem Keep.alloc (S : List Nat) (w : World) (o : Obj) : Keep S w (w.alloc o) := ⟨rfl, rfl, rfl, by simp, fun k hk _ => Below.heap_alloc _ _ _ hk⟩
theorem Keep.setCell {S : List Nat} (w : World) {a : Addr} (v : Value) (h : a.block ∈ S) : Keep S w (w.setCell a v) :=
  ⟨rfl, rfl, rfl, by simp [World.setCell], fun k _ hS => Below.heap_setCell _ _ _ _ (fun e => hS (e ▸ h))⟩
theorem Keep.setRow {S : List Nat} (w : World) {g : Nat} (cs : Array Value) (h : g ∈ S) : Keep S w (w.setRow g cs) :=
  ⟨rfl, rfl, rfl, by simp [World.setRow], fun k _ hS => setRow_other w g k cs (fun e => hS (e ▸ h))⟩
theorem Keep.blk {S : List Nat} {w w' : World} {k : Nat} {o : Obj} (h : Keep S w w') (hk : w.heap[k]? = some o) (hS : k ∉ S) : w'.heap[k]? = some o :=
  (h.block k (lt_of_block hk) hS).trans hk
theorem Keep.cell {S : List Nat} {w w' : World} {b : Nat} (h : Keep S w w') (hk : b < w.heap.size) (hS : b ∉ S) (o : Nat) : w'.cell? ⟨b, o, none⟩ = w.cell? ⟨b, o, none⟩ :=
  World.cell?_of_block (w := w) (h.block b hk hS)
theorem Keep.below {S : List Nat} {w w' : World} {B : Nat} (h : Keep S w w') (hB : B ≤ w.heap.size) (hS : ∀ k, k ∈ S → B ≤ k) : Below B w w' :=
  ⟨h.os, h.tape, h.output, h.size, fun k hk => h.block k (by omega) (fun e => by have := hS k e; omega)⟩
theorem Keep.ofBelow {w w' : World} {B : Nat} (h : Below B w w') (hB : w.heap.size ≤ B) : Keep [] w w' :=
  ⟨h.os, h.tape, h.output, h.size, fun k hk _ => h.block k (by omega)⟩

/-- A row of integers that may be written: block g, of elements of type t. -/
def Row (w : World) (t : TypeId) (g : Nat) (xs : List Int) : Prop := w.heap[g]? = some (.cells (ints xs).toArray t (0, 0))

theorem Row.lt {w : World} {t : TypeId} {g : Nat} {xs : List Int} (h : Row w t g xs) : g < w.heap.size := lt_of_block h
theorem Row.cell {w : World} {t : TypeId} {g : Nat} {xs : List Int} (h : Row w t g xs) {i : Nat} (hi : i < xs.length) : w.cell? ⟨g, i, none⟩ = some (.int .i64 (xs[i]?.getD 0)) := by
  have h' : w.heap[g]? = some (.cells (ints xs).toArray t (0, 0)) := h
  have := ints_get xs i hi
  simp [World.cell?, h', this]
theorem Row.free {w : World} {t : TypeId} {g : Nat} {xs : List Int} (h : Row w t g xs) (i : Nat) : w.frozen? ⟨g, i, none⟩ = false := by
  have h' : w.heap[g]? = some (.cells (ints xs).toArray t (0, 0)) := h
  simp [World.frozen?, h']
theorem Row.keep {S : List Nat} {w w' : World} {t : TypeId} {g : Nat} {xs : List Int} (h : Row w t g xs) (k : Keep S w w') (hS : g ∉ S) : Row w' t g xs := k.blk h hS
theorem Row.put {w : World} {t : TypeId} {g : Nat} {xs : List Int} (h : Row w t g xs) (i : Nat) (x : Int) : Row (w.setCell ⟨g, i, none⟩ (.int .i64 x)) t g (xs.set i x) := by
  have := heap_setCell_same w g i (ints xs).toArray t (.int .i64 x) h
  rw [show ((ints xs).toArray.setIfInBounds i (.int .i64 x)) = (ints (xs.set i x)).toArray from by simp [← ints_set]] at this
  exact this
theorem Row.made (w : World) (t : TypeId) (n : Nat) : Row (w.alloc (.cells (madeCells #[.int .i64 0] n) t)) t w.heap.size (zeros n) := by
  rw [ints_made]; exact heap_alloc_new w _

theorem eq_of_getD {xs ys : List Int} (hl : xs.length = ys.length) (h : ∀ t : Nat, xs[t]?.getD 0 = ys[t]?.getD 0) : xs = ys := by
  apply List.ext_getElem hl
  intro i h1 h2
  have := h i
  simpa [h1, h2] using this

/-- What a fill leaves of a list. -/
def fill0 (xs : List Int) (o m : Nat) : List Int := xs.take o ++ List.replicate m 0 ++ xs.drop (o + m)
theorem fill0_length (xs : List Int) (o m : Nat) (h : o + m ≤ xs.length) : (fill0 xs o m).length = xs.length := by
  simp [fill0]; omega
theorem fill0_get (xs : List Int) (o m i : Nat) (h : o + m ≤ xs.length) : (fill0 xs o m)[i]?.getD 0 = if o ≤ i ∧ i < o + m then 0 else xs[i]?.getD 0 := by
  unfold fill0
  have h1 : (xs.take o).length = o := by simp; omega
  by_cases h2 : i < o
  · have h3 : ¬ (o ≤ i ∧ i < o + m) := by omega
    rw [if_neg h3, List.append_assoc, List.getElem?_append_left (by omega), List.getElem?_take, if_pos h2]
  · by_cases h3 : i < o + m
    · rw [if_pos ⟨by omega, h3⟩, List.getElem?_append_left (by simp; omega), List.getElem?_append_right (by omega), h1]
      rw [List.getElem?_replicate, if_pos (by omega)]; rfl
    · rw [if_neg (by omega), List.getElem?_append_right (by simp; omega)]
      simp only [List.length_append, h1, List.length_replicate, List.getElem?_drop]
      congr 2; omega

theorem zeroCells_one (z : Value) (m : Nat) : (Builtin.zeroCells #[z] m).toList = List.replicate m z := by
  apply List.ext_getElem
  · simp [Builtin.zeroCells]
  · intro i h1 h2
    simp [Builtin.zeroCells, Nat.mod_one]

/-- The builtin clear, of a piece of a row. -/
theorem run_clear_row {P : Program} (w : World) (t ty elem : TypeId) (g o m c : Nat) (cur : List Value) (tt : TypeId) (z : Value) (bytes : Nat)
    (hu : P.underlying t = some (.slice elem)) (hinfo : (P.info? elem).map (fun i => (i.zero, i.size, i.bytes)) = some (some z, 1, bytes)) (hz1 : z.cells = #[z]) (h1 : z.oneCell' = true)
    (hg : w.heap[g]? = some (.cells cur.toArray tt (0, 0))) (hfit : o + m ≤ cur.length) :
    (Builtin.clear_ #[t] ty #[.slice (some ⟨g, o, none⟩) m c]).run P w =
      .ok (.tuple #[]) (w.setRow g (cur.take o ++ List.replicate m z ++ cur.drop (o + m)).toArray) := by
  obtain ⟨i, hi, hz, hs, hb⟩ := info_parts hinfo
  have hst := run_storeCells_at P g o tt (List.replicate m z) 0 cur.toArray w hg (by simpa using hfit) (by intro v hv; rw [List.eq_of_mem_replicate hv]; exact h1)
  simp at hst
  cases m with
  | zero =>
    simp [Builtin.clear_, run_underlying hu, setRow_self w g cur.toArray tt (0, 0) hg]
  | succ m =>
    simp [Builtin.clear_, run_underlying hu, zeroValue, typeInfo, hi, hz, hz1, zeroCells_one, hst]

theorem Row.cleared {P : Program} {w : World} {g o m c : Nat} {xs : List Int} (t ty elem tt : TypeId)
    (hu : P.underlying t = some (.slice elem)) (hinfo : (P.info? elem).map (fun i => (i.zero, i.size, i.bytes)) = some (some (.int .i64 0), 1, 8))
    (h : Row w tt g xs) (hfit : o + m ≤ xs.length) :
    (Builtin.clear_ #[t] ty #[.slice (some ⟨g, o, none⟩) m c]).run P w = .ok (.tuple #[]) (w.setRow g (ints (fill0 xs o m)).toArray) ∧
      Row (w.setRow g (ints (fill0 xs o m)).toArray) tt g (fill0 xs o m) := by
  have hr := run_clear_row (P := P) w t ty elem g o m c (ints xs) tt (.int .i64 0) 8 hu hinfo rfl rfl h (by rw [ints_length]; exact hfit)
  have e : (ints xs).take o ++ List.replicate m (.int .i64 0) ++ (ints xs).drop (o + m) = ints (fill0 xs o m) := by simp [ints, fill0]
  rw [e] at hr
  exact ⟨hr, setRow_heap w g _ _ tt _ h⟩

end Go.Proofs.Ytjlfjbdkffppeaa
