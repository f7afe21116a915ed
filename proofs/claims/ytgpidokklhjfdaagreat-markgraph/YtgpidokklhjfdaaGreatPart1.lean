/-
  Contracts of what the statement calls, one text behind the other (Base, Sep, Bools, Bits, Puts, Size, Block, Pages, SpaceM, SpaceM2).
-/
import Derived.WalkKit
import Derived.WalkSpells
import Derived.WalkLawsBesides
import Derived.Deep.QuietTactic
import Derived.Deep.OwnRows
import Derived.BigQuiet
import Derived.Test.YtgpidokklhjfdaaGreatRows
import Derived.Deep.RegionHeld3

/-
  Plain facts on worlds, rows of integers and frames; they speak of no program.
-/
namespace Go.Proofs.YtgpidokklhjfdaaGreat
open Go.RowKit

/-- Integers as cells. -/
def ints (xs : List Int) : List Value := xs.map (Value.int .i64)

theorem ints_length (xs : List Int) : (ints xs).length = xs.length := by simp [ints]
theorem ints_get (xs : List Int) (i : Nat) (h : i < xs.length) : (ints xs)[i]? = some (.int .i64 (xs[i]?.getD 0)) := by
  simp [ints, h]
theorem ints_set (xs : List Int) (i : Nat) (x : Int) : (ints xs).set i (.int .i64 x) = ints (xs.set i x) := by
  simp [ints, List.map_set]
/-- So many zeros. -/
def zeros (n : Nat) : List Int := List.replicate n 0
theorem zeros_length (n : Nat) : (zeros n).length = n := by simp [zeros]
theorem zeros_get (n i : Nat) : (zeros n)[i]?.getD 0 = 0 := by
  rw [zeros, List.getElem?_replicate]; split <;> rfl
theorem set_get_same (xs : List Int) (i : Nat) (x : Int) (h : i < xs.length) : (xs.set i x)[i]?.getD 0 = x := by
  simp [h]
theorem set_get_other (xs : List Int) (i j : Nat) (x : Int) (h : i ≠ j) : (xs.set i x)[j]?.getD 0 = xs[j]?.getD 0 := by
  simp [h]
theorem ints_made (n : Nat) : madeCells #[.int .i64 0] n = (ints (zeros n)).toArray := by
  apply Array.toList_inj.1
  rw [toList_madeCells_one]
  simp [ints, zeros]

/-- Of all blocks that there were, those that are not listed are as they were. -/
structure Keep (S : List Nat) (w w' : World) : Prop where
  os : w'.os = w.os
  tape : w'.tape = w.tape
  output : w'.output = w.output
  size : w.heap.size ≤ w'.heap.size
  block : ∀ k, k < w.heap.size → k ∉ S → w'.heap[k]? = w.heap[k]?

theorem Keep.refl (S : List Nat) (w : World) : Keep S w w := ⟨rfl, rfl, rfl, Nat.le_refl _, fun _ _ _ => rfl⟩
theorem Keep.trans {S : List Nat} {a b c : World} (h : Keep S a b) (k : Keep S b c) : Keep S a c :=
  ⟨k.os.trans h.os, k.tape.trans h.tape, k.output.trans h.output, Nat.le_trans h.size k.size, fun i hi hS => (k.block i (Nat.lt_of_lt_of_le hi h.size) hS).trans (h.block i hi hS)⟩
theorem Keep.mono {S T : List Nat} {w w' : World} (h : Keep S w w') (hS : ∀ k, k ∈ S → k ∈ T) : Keep T w w' :=
  ⟨h.os, h.tape, h.output, h.size, fun k hk hT => h.block k hk (fun e => hT (hS k e))⟩
/-- Blocks that were not there when it began need not be listed. -/
theorem Keep.drop {S T : List Nat} {w w' : World} (h : Keep S w w') (hS : ∀ k, k ∈ S → k < w.heap.size → k ∈ T) : Keep T w w' :=
  ⟨h.os, h.tape, h.output, h.size, fun k hk hT => h.block k hk (fun e => hT (hS k e hk))⟩
theorem Keep.drewN (S : List Nat) (w : World) (n : Nat) : Keep S w (w.drewN n) := ⟨rfl, rfl, rfl, Nat.le_refl _, fun _ _ _ => rfl⟩
theorem Keep.drew (S : List Nat) (w : World) : Keep S w w.drew := ⟨rfl, rfl, rfl, Nat.le_refl _, fun _ _ _ => rfl⟩
theorem Keep.alloc (S : List Nat) (w : World) (o : Obj) : Keep S w (w.alloc o) := ⟨rfl, rfl, rfl, by simp, fun k hk _ => Below.heap_alloc _ _ _ hk⟩
theorem Keep.setCell {S : List Nat} (w : World) {a : Addr} (v : Value) (h : a.block ∈ S) : Keep S w (w.setCell a v) :=
  ⟨rfl, rfl, rfl, by simp [World.setCell], fun k _ hS => Below.heap_setCell _ _ _ _ (fun e => hS (e ▸ h))⟩
theorem Keep.setRow {S : List Nat} (w : World) {g : Nat} (cs : Array Value) (h : g ∈ S) : Keep S w (w.setRow g cs) :=
  ⟨rfl, rfl, rfl, by simp [World.setRow], fun k _ hS => setRow_other w g k cs (fun e => hS (e ▸ h))⟩
theorem Keep.blk {S : List Nat} {w w' : World} {k : Nat} {o : Obj} (h : Keep S w w') (hk : w.heap[k]? = some o) (hS : k ∉ S) : w'.heap[k]? = some o :=
  (h.block k (lt_of_block hk) hS).trans hk
theorem Keep.cell {S : List Nat} {w w' : World} {b : Nat} (h : Keep S w w') (hk : b < w.heap.size) (hS : b ∉ S) (o : Nat) : w'.cell? ⟨b, o, none⟩ = w.cell? ⟨b, o, none⟩ :=
  World.cell?_of_block (w := w) (h.block b hk hS)
theorem Keep.below {S : List Nat} {w w' : World} {B : Nat} (h : Keep S w w') (hB : B ≤ w.heap.size) (hS : ∀ k, k ∈ S → B ≤ k) : Below B w w' :=
  ⟨h.os, h.tape, h.output, h.size, fun k hk => h.block k (by omega) (fun e => by have := hS k e; omega)⟩
theorem Keep.ofBelow {w w' : World} {B : Nat} (h : Below B w w') (hB : w.heap.size ≤ B) : Keep [] w w' :=
  ⟨h.os, h.tape, h.output, h.size, fun k hk _ => h.block k (by omega)⟩

/-- A row of integers that may be written: block g, of elements of type t. -/
def Row (w : World) (t : TypeId) (g : Nat) (xs : List Int) : Prop := w.heap[g]? = some (.cells (ints xs).toArray t (0, 0))

theorem Row.lt {w : World} {t : TypeId} {g : Nat} {xs : List Int} (h : Row w t g xs) : g < w.heap.size := lt_of_block h
theorem Row.cell {w : World} {t : TypeId} {g : Nat} {xs : List Int} (h : Row w t g xs) {i : Nat} (hi : i < xs.length) : w.cell? ⟨g, i, none⟩ = some (.int .i64 (xs[i]?.getD 0)) := by
  have h' : w.heap[g]? = some (.cells (ints xs).toArray t (0, 0)) := h
  have := ints_get xs i hi
  simp [World.cell?, h', this]
theorem Row.free {w : World} {t : TypeId} {g : Nat} {xs : List Int} (h : Row w t g xs) (i : Nat) : w.frozen? ⟨g, i, none⟩ = false := by
  have h' : w.heap[g]? = some (.cells (ints xs).toArray t (0, 0)) := h
  simp [World.frozen?, h']
theorem Row.keep {S : List Nat} {w w' : World} {t : TypeId} {g : Nat} {xs : List Int} (h : Row w t g xs) (k : Keep S w w') (hS : g ∉ S) : Row w' t g xs := k.blk h hS
theorem Row.put {w : World} {t : TypeId} {g : Nat} {xs : List Int} (h : Row w t g xs) (i : Nat) (x : Int) : Row (w.setCell ⟨g, i, none⟩ (.int .i64 x)) t g (xs.set i x) := by
  have := heap_setCell_same w g i (ints xs).toArray t (.int .i64 x) h
  rw [show ((ints xs).toArray.setIfInBounds i (.int .i64 x)) = (ints (xs.set i x)).toArray from by simp [← ints_set]] at this
  exact this
theorem Row.made (w : World) (t : TypeId) (n : Nat) : Row (w.alloc (.cells (madeCells #[.int .i64 0] n) t)) t w.heap.size (zeros n) := by
  rw [ints_made]; exact heap_alloc_new w _

theorem eq_of_getD {xs ys : List Int} (hl : xs.length = ys.length) (h : ∀ t : Nat, xs[t]?.getD 0 = ys[t]?.getD 0) : xs = ys := by
  apply List.ext_getElem hl
  intro i h1 h2
  have := h i
  simpa [h1, h2] using this

/-- What a fill leaves of a list. -/
def fill0 (xs : List Int) (o m : Nat) : List Int := xs.take o ++ List.replicate m 0 ++ xs.drop (o + m)
theorem fill0_length (xs : List Int) (o m : Nat) (h : o + m ≤ xs.length) : (fill0 xs o m).length = xs.length := by
  simp [fill0]; omega
theorem fill0_get (xs : List Int) (o m i : Nat) (h : o + m ≤ xs.length) : (fill0 xs o m)[i]?.getD 0 = if o ≤ i ∧ i < o + m then 0 else xs[i]?.getD 0 := by
  unfold fill0
  have h1 : (xs.take o).length = o := by simp; omega
  by_cases h2 : i < o
  · have h3 : ¬ (o ≤ i ∧ i < o + m) := by omega
    rw [if_neg h3, List.append_assoc, List.getElem?_append_left (by omega), List.getElem?_take, if_pos h2]
  · by_cases h3 : i < o + m
    · rw [if_pos ⟨by omega, h3⟩, List.getElem?_append_left (by simp; omega), List.getElem?_append_right (by omega), h1]
      rw [List.getElem?_replicate, if_pos (by omega)]; rfl
    · rw [if_neg (by omega), List.getElem?_append_right (by simp; omega)]
      simp only [List.length_append, h1, List.length_replicate, List.getElem?_drop]
      congr 2; omega

theorem zeroCells_one (z : Value) (m : Nat) : (Builtin.zeroCells #[z] m).toList = List.replicate m z := by
  apply List.ext_getElem
  · simp [Builtin.zeroCells]
  · intro i h1 h2
    simp [Builtin.zeroCells, Nat.mod_one]

/-- The builtin clear, of a piece of a row. -/
theorem run_clear_row {P : Program} (w : World) (t ty elem : TypeId) (g o m c : Nat) (cur : List Value) (tt : TypeId) (z : Value) (bytes : Nat)
    (hu : P.underlying t = some (.slice elem)) (hinfo : (P.info? elem).map (fun i => (i.zero, i.size, i.bytes)) = some (some z, 1, bytes)) (hz1 : z.cells = #[z]) (h1 : z.oneCell' = true)
    (hg : w.heap[g]? = some (.cells cur.toArray tt (0, 0))) (hfit : o + m ≤ cur.length) :
    (Builtin.clear_ #[t] ty #[.slice (some ⟨g, o, none⟩) m c]).run P w =
      .ok (.tuple #[]) (w.setRow g (cur.take o ++ List.replicate m z ++ cur.drop (o + m)).toArray) := by
  obtain ⟨i, hi, hz, hs, hb⟩ := info_parts hinfo
  have hst := run_storeCells_at P g o tt (List.replicate m z) 0 cur.toArray w hg (by simpa using hfit) (by intro v hv; rw [List.eq_of_mem_replicate hv]; exact h1)
  simp at hst
  cases m with
  | zero =>
    simp [Builtin.clear_, run_underlying hu, setRow_self w g cur.toArray tt (0, 0) hg]
  | succ m =>
    simp [Builtin.clear_, run_underlying hu, zeroValue, typeInfo, hi, hz, hz1, zeroCells_one, hst]

theorem Row.cleared {P : Program} {w : World} {g o m c : Nat} {xs : List Int} (t ty elem tt : TypeId)
    (hu : P.underlying t = some (.slice elem)) (hinfo : (P.info? elem).map (fun i => (i.zero, i.size, i.bytes)) = some (some (.int .i64 0), 1, 8))
    (h : Row w tt g xs) (hfit : o + m ≤ xs.length) :
    (Builtin.clear_ #[t] ty #[.slice (some ⟨g, o, none⟩) m c]).run P w = .ok (.tuple #[]) (w.setRow g (ints (fill0 xs o m)).toArray) ∧
      Row (w.setRow g (ints (fill0 xs o m)).toArray) tt g (fill0 xs o m) := by
  have hr := run_clear_row (P := P) w t ty elem g o m c (ints xs) tt (.int .i64 0) 8 hu hinfo rfl rfl h (by rw [ints_length]; exact hfit)
  have e : (ints xs).take o ++ List.replicate m (.int .i64 0) ++ (ints xs).drop (o + m) = ints (fill0 xs o m) := by simp [ints, fill0]
  rw [e] at hr
  exact ⟨hr, setRow_heap w g _ _ tt _ h⟩

end Go.Proofs.YtgpidokklhjfdaaGreat

/-
  Memory in parts: what is said of a world and of the blocks that it owns; parts that share no block; what a call that turns one part leaves of the others. It speaks of no program.
-/
namespace Go.Proofs.YtgpidokklhjfdaaGreat
open Go.RowKit

/-- Something that is said of a world, and of all blocks that it rests on. -/
structure Asn where
  at' : World → List Nat → Prop
  keep : ∀ {S F : List Nat} {w w' : World}, at' w F → Keep S w w' → (∀ k, k ∈ F → k ∉ S) → at' w' F
  lt : ∀ {F : List Nat} {w : World}, at' w F → ∀ k, k ∈ F → k < w.heap.size

/-- What a call has turned: blocks of F alone; what it owns then are of F, or new. -/
structure Upd (w w' : World) (F F' : List Nat) : Prop where
  keep : Keep F w w'
  grow : ∀ k, k ∈ F' → k ∈ F ∨ w.heap.size ≤ k

theorem Upd.refl {w w' : World} {F : List Nat} (K : Keep [] w w') : Upd w w' F F := ⟨K.mono (by simp), fun _ h => .inl h⟩
theorem Upd.trans {a b c : World} {F G H : List Nat} (h : Upd a b F G) (k : Upd b c G H) : Upd a c F H := by
  refine ⟨⟨k.keep.os.trans h.keep.os, k.keep.tape.trans h.keep.tape, k.keep.output.trans h.keep.output, Nat.le_trans h.keep.size k.keep.size, fun i hi hF => ?_⟩, fun i hi => ?_⟩
  · rw [k.keep.block i (Nat.lt_of_lt_of_le hi h.keep.size) (fun e => ?_), h.keep.block i hi hF]
    rcases h.grow i e with e | e
    · exact hF e
    · omega
  · rcases k.grow i hi with e | e
    · exact h.grow i e
    · exact .inr (Nat.le_trans h.keep.size e)
theorem Upd.mono {w w' : World} {F F' G : List Nat} (h : Upd w w' F F') (hS : ∀ k, k ∈ F → k ∈ G) : Upd w w' G F' := ⟨h.keep.mono hS, fun k hk => (h.grow k hk).imp (hS k) id⟩

/-- One block, known whole. -/
def blockA (b : Nat) (o : Obj) : Asn where
  at' w F := F = [b] ∧ w.heap[b]? = some o
  keep := fun h K hS => ⟨h.1, K.blk h.2 (hS _ (by rw [h.1]; simp))⟩
  lt := fun h k hk => by rw [h.1] at hk; simp at hk; subst hk; exact lt_of_block h.2

/-- Two parts that share no block. -/
def Asn.star (A B : Asn) : Asn where
  at' w F := ∃ F1 F2, (∀ k, k ∈ F ↔ k ∈ F1 ∨ k ∈ F2) ∧ A.at' w F1 ∧ B.at' w F2 ∧ ∀ k, k ∈ F1 → k ∉ F2
  keep := fun h K hS => by
    obtain ⟨F1, F2, hF, h1, h2, hd⟩ := h
    exact ⟨F1, F2, hF, A.keep h1 K (fun k hk => hS k ((hF k).2 (.inl hk))), B.keep h2 K (fun k hk => hS k ((hF k).2 (.inr hk))), hd⟩
  lt := fun h k hk => by
    obtain ⟨F1, F2, hF, h1, h2, hd⟩ := h
    rcases (hF k).1 hk with e | e
    · exact A.lt h1 k e
    · exact B.lt h2 k e

theorem star_comm {A B : Asn} {w : World} {F : List Nat} (h : (A.star B).at' w F) : (B.star A).at' w F := by
  obtain ⟨F1, F2, hF, h1, h2, hd⟩ := h
  exact ⟨F2, F1, fun k => (hF k).trans ⟨Or.symm, Or.symm⟩, h2, h1, fun k e1 e2 => hd k e2 e1⟩
theorem star_assoc {A B C : Asn} {w : World} {F : List Nat} (h : ((A.star B).star C).at' w F) : (A.star (B.star C)).at' w F := by
  obtain ⟨F12, F3, hF, ⟨F1, F2, hF', h1, h2, hd'⟩, h3, hd⟩ := h
  refine ⟨F1, F2 ++ F3, fun k => ?_, h1, ⟨F2, F3, fun k => by simp, h2, h3, fun k e => hd k ((hF' k).2 (.inr e))⟩, fun k e => ?_⟩
  · rw [hF, hF', List.mem_append, or_assoc]
  · rw [List.mem_append]
    rintro (e' | e')
    · exact hd' k e e'
    · exact hd k ((hF' k).2 (.inl e)) e'
theorem star_assoc' {A B C : Asn} {w : World} {F : List Nat} (h : (A.star (B.star C)).at' w F) : ((A.star B).star C).at' w F := by
  obtain ⟨F1, F23, hF, h1, ⟨F2, F3, hF', h2, h3, hd'⟩, hd⟩ := h
  refine ⟨F1 ++ F2, F3, fun k => ?_, ⟨F1, F2, fun k => by simp, h1, h2, fun k e e' => hd k e ((hF' k).2 (.inl e'))⟩, h3, fun k e e' => ?_⟩
  · rw [hF, hF', List.mem_append, or_assoc]
  · rw [List.mem_append] at e
    rcases e with e | e
    · exact hd k e ((hF' k).2 (.inr e'))
    · exact hd' k e e'

/-- The first part is turned. -/
theorem star_left {A' B : Asn} {w w' : World} {F F1 F2 F1' : List Nat} (hF : ∀ k, k ∈ F ↔ k ∈ F1 ∨ k ∈ F2) (hd : ∀ k, k ∈ F1 → k ∉ F2) (hB : B.at' w F2) (h : A'.at' w' F1') (u : Upd w w' F1 F1') : ∃ F', (A'.star B).at' w' F' ∧ Upd w w' F F' := by
  have hlt := B.lt hB
  refine ⟨F1' ++ F2, ⟨F1', F2, fun k => by simp, h, B.keep hB u.keep (fun k e e' => hd k e' e), fun k e e' => ?_⟩, u.keep.mono (fun k e => (hF k).2 (.inl e)), fun k e => ?_⟩
  · rcases u.grow k e with g | g
    · exact hd k g e'
    · have := hlt k e'; omega
  · rw [List.mem_append] at e
    rcases e with e | e
    · exact (u.grow k e).imp (fun g => (hF k).2 (.inl g)) id
    · exact .inl ((hF k).2 (.inr e))
/-- The second part is turned. -/
theorem star_right {A B' : Asn} {w w' : World} {F F1 F2 F2' : List Nat} (hF : ∀ k, k ∈ F ↔ k ∈ F1 ∨ k ∈ F2) (hd : ∀ k, k ∈ F1 → k ∉ F2) (hA : A.at' w F1) (h : B'.at' w' F2') (u : Upd w w' F2 F2') : ∃ F', (A.star B').at' w' F' ∧ Upd w w' F F' := by
  obtain ⟨F', h1, h2⟩ := star_left (A' := B') (B := A) (F := F) (fun k => (hF k).trans ⟨Or.symm, Or.symm⟩) (fun k e e' => hd k e' e) hA h u
  exact ⟨F', star_comm h1, h2⟩
/-- A part that is new. -/
theorem star_new {A B : Asn} {w w' : World} {F G : List Nat} (hA : A.at' w F) (K : Keep [] w w') (hB : B.at' w' G) (hG : ∀ k, k ∈ G → w.heap.size ≤ k) : ∃ F', (A.star B).at' w' F' ∧ Upd w w' F F' := by
  refine ⟨F ++ G, ⟨F, G, fun k => by simp, A.keep hA K (by simp), hB, fun k e e' => ?_⟩, K.mono (by simp), fun k e => ?_⟩
  · have := A.lt hA k e
    have := hG k e'
    omega
  · rw [List.mem_append] at e
    exact e.imp id (hG k)

/-- What is owned in w, grown out of F0 in w0: blocks of F0 alone have been turned since, and what is owned are of F0, or new. With no F0 all of it is younger than w0, and all that is older is as it was. -/
def Has (w0 : World) (F0 : List Nat) (A : Asn) (w : World) : Prop := ∃ F, A.at' w F ∧ Upd w0 w F0 F
theorem Has.start {w : World} {A : Asn} {F : List Nat} (h : A.at' w F) : Has w F A w := ⟨F, h, Upd.refl (Keep.refl _ _)⟩
theorem Has.K {w0 w : World} {A : Asn} {F0 : List Nat} (h : Has w0 F0 A w) : Keep F0 w0 w := by obtain ⟨F, _, h⟩ := h; exact h.keep
theorem Has.keep0 {w0 w w' : World} {A : Asn} {F0 : List Nat} (h : Has w0 F0 A w) (K : Keep [] w w') : Has w0 F0 A w' := by
  obtain ⟨F, h1, h2⟩ := h
  exact ⟨F, A.keep h1 K (by simp), h2.trans (Upd.refl K)⟩
theorem Has.map {w0 w : World} {A B : Asn} {F0 : List Nat} (h : Has w0 F0 A w) (f : ∀ F, A.at' w F → B.at' w F) : Has w0 F0 B w := by
  obtain ⟨F, h1, h2⟩ := h
  exact ⟨F, f F h1, h2⟩
theorem Has.comm {w0 w : World} {A B : Asn} {F0 : List Nat} (h : Has w0 F0 (A.star B) w) : Has w0 F0 (B.star A) w := h.map (fun _ => star_comm)
theorem Has.assoc {w0 w : World} {A B C : Asn} {F0 : List Nat} (h : Has w0 F0 ((A.star B).star C) w) : Has w0 F0 (A.star (B.star C)) w := h.map (fun _ => star_assoc)
theorem Has.assoc' {w0 w : World} {A B C : Asn} {F0 : List Nat} (h : Has w0 F0 (A.star (B.star C)) w) : Has w0 F0 ((A.star B).star C) w := h.map (fun _ => star_assoc')
theorem Has.fst {w0 w : World} {A B : Asn} {F0 : List Nat} (h : Has w0 F0 (A.star B) w) : Has w0 F0 A w := by
  obtain ⟨F, ⟨F1, F2, hF, h1, _⟩, h2⟩ := h
  exact ⟨F1, h1, h2.keep, fun k e => h2.grow k ((hF k).2 (.inl e))⟩
theorem Has.snd {w0 w : World} {A B : Asn} {F0 : List Nat} (h : Has w0 F0 (A.star B) w) : Has w0 F0 B w := h.comm.fst
theorem Has.upd {w0 w w' : World} {A' : Asn} {F0 F F' : List Nat} (u : Upd w0 w F0 F) (h : A'.at' w' F') (v : Upd w w' F F') : Has w0 F0 A' w' := ⟨F', h, u.trans v⟩
theorem Has.then {w0 w w' : World} {A A' : Asn} {F0 : List Nat} (h : Has w0 F0 A w) (g : ∀ F, A.at' w F → Has w F A' w') : Has w0 F0 A' w' := by
  obtain ⟨F, h1, h2⟩ := h
  obtain ⟨F', h3, h4⟩ := g F h1
  exact ⟨F', h3, h2.trans h4⟩
/-- Something new beside it. -/
theorem Has.more {w0 w w' : World} {A B : Asn} {F0 G : List Nat} (h : Has w0 F0 A w) (K : Keep [] w w') (hB : B.at' w' G) (hG : ∀ k, k ∈ G → w.heap.size ≤ k) : Has w0 F0 (A.star B) w' := by
  obtain ⟨F, h1, h2⟩ := h
  obtain ⟨F', g1, g2⟩ := star_new h1 K hB hG
  exact ⟨F', g1, h2.trans g2⟩
/-- The first part is turned. -/
theorem Has.left {w0 w w' : World} {A A' B : Asn} {F0 : List Nat} (h : Has w0 F0 (A.star B) w) (g : ∀ F, A.at' w F → Has w F A' w') : Has w0 F0 (A'.star B) w' := by
  obtain ⟨F, ⟨F1, F2, hF, h1, h2, hd⟩, u⟩ := h
  obtain ⟨F', h3, h4⟩ := g F1 h1
  obtain ⟨F'', h5, h6⟩ := star_left hF hd h2 h3 h4
  exact ⟨F'', h5, u.trans h6⟩
/-- A fact that holds of a part, wherever it lies. -/
theorem Has.fact {w0 w : World} {A : Asn} {F0 : List Nat} {p : Prop} (h : Has w0 F0 A w) (g : ∀ F, A.at' w F → p) : p := by
  obtain ⟨F, h1, _⟩ := h
  exact g F h1

/-- A call that turns what it is told of. -/
theorem has_call {P : Program} {f : FuncId} {args : Array Value} {w0 w : World} {A A' : Asn} {F0 : List Nat} {Q : Ending → World → Prop} (h : Has w0 F0 A w) (hc : ∀ F, Has w F A w → Calls P f args w fun e w' => Q e w' ∧ Has w F A' w') :
    Calls P f args w fun e w' => Q e w' ∧ Has w0 F0 A' w' := by
  obtain ⟨F, h1, h2⟩ := h
  refine (hc F (Has.start h1)).mono ?_
  rintro e w' ⟨hq, F', g1, g2⟩
  exact ⟨hq, F', g1, h2.trans g2⟩
/-- A call that turns the first part alone. -/
theorem has_left {P : Program} {f : FuncId} {args : Array Value} {w0 w : World} {A A' B : Asn} {F0 : List Nat} {Q : Ending → World → Prop} (h : Has w0 F0 (A.star B) w) (hc : ∀ F, Has w F A w → Calls P f args w fun e w' => Q e w' ∧ Has w F A' w') :
    Calls P f args w fun e w' => Q e w' ∧ Has w0 F0 (A'.star B) w' := by
  obtain ⟨F, ⟨F1, F2, hF, h1, h2, hd⟩, u⟩ := h
  refine (hc F1 (Has.start h1)).mono ?_
  rintro e w' ⟨hq, F', g1, g2⟩
  obtain ⟨F'', h5, h6⟩ := star_left hF hd h2 g1 g2
  exact ⟨hq, F'', h5, u.trans h6⟩
theorem has_right {P : Program} {f : FuncId} {args : Array Value} {w0 w : World} {A B B' : Asn} {F0 : List Nat} {Q : Ending → World → Prop} (h : Has w0 F0 (A.star B) w) (hc : ∀ F, Has w F B w → Calls P f args w fun e w' => Q e w' ∧ Has w F B' w') :
    Calls P f args w fun e w' => Q e w' ∧ Has w0 F0 (A.star B') w' := by
  refine (has_left h.comm hc).mono ?_
  rintro e w' ⟨hq, h⟩
  exact ⟨hq, h.comm⟩
/-- A call that turns nothing of it. -/
theorem has_same {P : Program} {f : FuncId} {args : Array Value} {w0 w : World} {A : Asn} {F0 : List Nat} {Q : Ending → World → Prop} (h : Has w0 F0 A w) (hc : Calls P f args w fun e w' => Q e w' ∧ Keep [] w w') :
    Calls P f args w fun e w' => Q e w' ∧ Has w0 F0 A w' := by
  refine hc.mono ?_
  rintro e w' ⟨hq, hK⟩
  exact ⟨hq, h.keep0 hK⟩

end Go.Proofs.YtgpidokklhjfdaaGreat

/-
  Plain facts on rows of bools: what is so, the next one, a run, how many; and such a row in memory. They speak of no program.
-/
namespace Go.Proofs.YtgpidokklhjfdaaGreat
open Go.RowKit

/-- Bools as cells. -/
def bools (xs : List Bool) : List Value := xs.map Value.bool
theorem bools_length (xs : List Bool) : (bools xs).length = xs.length := by simp [bools]
theorem bools_get (xs : List Bool) (i : Nat) (h : i < xs.length) : (bools xs)[i]? = some (.bool (xs[i]?.getD false)) := by
  simp [bools, h]
theorem bools_set (xs : List Bool) (i : Nat) (x : Bool) : (bools xs).set i (.bool x) = bools (xs.set i x) := by
  simp [bools, List.map_set]
/-- So many that are not so. -/
def offs (n : Nat) : List Bool := List.replicate n false
theorem offs_length (n : Nat) : (offs n).length = n := by simp [offs]
theorem offs_get (n i : Nat) : (offs n)[i]?.getD false = false := by
  rw [offs, List.getElem?_replicate]; split <;> rfl
theorem bools_made (n : Nat) : madeCells #[.bool false] n = (bools (offs n)).toArray := by
  apply Array.toList_inj.1
  rw [toList_madeCells_one]
  simp [bools, offs]
theorem bset_same (xs : List Bool) (i : Nat) (x : Bool) (h : i < xs.length) : (xs.set i x)[i]?.getD false = x := by
  simp [h]
theorem bset_other (xs : List Bool) (i j : Nat) (x : Bool) (h : i ≠ j) : (xs.set i x)[j]?.getD false = xs[j]?.getD false := by
  simp [h]
theorem beq_of_getD {xs ys : List Bool} (hl : xs.length = ys.length) (h : ∀ t : Nat, xs[t]?.getD false = ys[t]?.getD false) : xs = ys := by
  apply List.ext_getElem hl
  intro i h1 h2
  have := h i
  simpa [h1, h2] using this

/-- A row of bools that may be written: block g, of elements of type t. -/
def BRow (w : World) (t : TypeId) (g : Nat) (xs : List Bool) : Prop := w.heap[g]? = some (.cells (bools xs).toArray t (0, 0))

theorem BRow.lt {w : World} {t : TypeId} {g : Nat} {xs : List Bool} (h : BRow w t g xs) : g < w.heap.size := lt_of_block h
theorem BRow.cell {w : World} {t : TypeId} {g : Nat} {xs : List Bool} (h : BRow w t g xs) {i : Nat} (hi : i < xs.length) : w.cell? ⟨g, i, none⟩ = some (.bool (xs[i]?.getD false)) := by
  have h' : w.heap[g]? = some (.cells (bools xs).toArray t (0, 0)) := h
  have := bools_get xs i hi
  simp [World.cell?, h', this]
theorem BRow.free {w : World} {t : TypeId} {g : Nat} {xs : List Bool} (h : BRow w t g xs) (i : Nat) : w.frozen? ⟨g, i, none⟩ = false := by
  have h' : w.heap[g]? = some (.cells (bools xs).toArray t (0, 0)) := h
  simp [World.frozen?, h']
theorem BRow.keep {S : List Nat} {w w' : World} {t : TypeId} {g : Nat} {xs : List Bool} (h : BRow w t g xs) (k : Keep S w w') (hS : g ∉ S) : BRow w' t g xs := k.blk h hS
theorem BRow.put {w : World} {t : TypeId} {g : Nat} {xs : List Bool} (h : BRow w t g xs) (i : Nat) (x : Bool) : BRow (w.setCell ⟨g, i, none⟩ (.bool x)) t g (xs.set i x) := by
  have := heap_setCell_same w g i (bools xs).toArray t (.bool x) h
  rw [show ((bools xs).toArray.setIfInBounds i (.bool x)) = (bools (xs.set i x)).toArray from by simp [← bools_set]] at this
  exact this
theorem BRow.made (w : World) (t : TypeId) (n : Nat) : BRow (w.alloc (.cells (madeCells #[.bool false] n) t)) t w.heap.size (offs n) := by
  rw [bools_made]; exact heap_alloc_new w _

/-- The first place of l, the first of which is i, that is v; -1: there is none. -/
def nextL : List Bool → Bool → Nat → Int
  | [], _, _ => -1
  | x :: l, v, i => if x = v then (i : Int) else nextL l v (i + 1)
/-- The first place from i on that is v. -/
def nextR (xs : List Bool) (i : Nat) (v : Bool) : Int := nextL (xs.drop i) v i

theorem drop_at (xs : List Bool) (i : Nat) (h : i < xs.length) : xs.drop i = (xs[i]?.getD false) :: xs.drop (i + 1) := by
  rw [List.drop_eq_getElem_cons h]; simp [h]
theorem nextR_end (xs : List Bool) (i : Nat) (v : Bool) (h : xs.length ≤ i) : nextR xs i v = -1 := by
  unfold nextR; rw [List.drop_eq_nil_of_le h]; rfl
theorem nextR_yes (xs : List Bool) (i : Nat) (v : Bool) (h : i < xs.length) (hv : xs[i]?.getD false = v) : nextR xs i v = i := by
  unfold nextR; rw [drop_at xs i h, hv]; simp [nextL]
theorem nextR_no (xs : List Bool) (i : Nat) (v : Bool) (h : i < xs.length) (hv : xs[i]?.getD false ≠ v) : nextR xs i v = nextR xs (i + 1) v := by
  unfold nextR; rw [drop_at xs i h]; simp only [nextL]; rw [if_neg hv]
/-- What is found: none, or the first one. -/
theorem nextR_spec (xs : List Bool) (v : Bool) (m : Nat) : ∀ i, xs.length - i = m →
    (nextR xs i v = -1 ∧ ∀ t, i ≤ t → t < xs.length → xs[t]?.getD false ≠ v) ∨
    ∃ j : Nat, nextR xs i v = j ∧ i ≤ j ∧ j < xs.length ∧ xs[j]?.getD false = v ∧ ∀ t, i ≤ t → t < j → xs[t]?.getD false ≠ v := by
  induction m with
  | zero => intro i h; exact .inl ⟨nextR_end _ _ _ (by omega), fun t h1 h2 => by omega⟩
  | succ m ih =>
    intro i h
    by_cases hv : xs[i]?.getD false = v
    · exact .inr ⟨i, nextR_yes _ _ _ (by omega) hv, by omega, by omega, hv, fun t h1 h2 => by omega⟩
    · rw [nextR_no _ _ _ (by omega) hv]
      rcases ih (i + 1) (by omega) with ⟨h1, h2⟩ | ⟨j, h1, h2, h3, h4, h5⟩
      · refine .inl ⟨h1, fun t a b => ?_⟩
        by_cases e : t = i
        · subst e; exact hv
        · exact h2 t (by omega) b
      · refine .inr ⟨j, h1, by omega, h3, h4, fun t a b => ?_⟩
        by_cases e : t = i
        · subst e; exact hv
        · exact h5 t (by omega) b
theorem nextR_is (xs : List Bool) (v : Bool) (i j : Nat) (h1 : i ≤ j) (h2 : j < xs.length) (h3 : xs[j]?.getD false = v) (h4 : ∀ t, i ≤ t → t < j → xs[t]?.getD false ≠ v) : nextR xs i v = j := by
  rcases nextR_spec xs v _ i rfl with ⟨_, h⟩ | ⟨l, h, a, _, c, d⟩
  · exact absurd h3 (h j h1 h2)
  · rcases Nat.lt_trichotomy l j with e | e | e
    · exact absurd c (h4 l a e)
    · rw [h, e]
    · exact absurd h3 (d j h1 e)
theorem nextR_none (xs : List Bool) (v : Bool) (i : Nat) (h : ∀ t, i ≤ t → t < xs.length → xs[t]?.getD false ≠ v) : nextR xs i v = -1 := by
  rcases nextR_spec xs v _ i rfl with ⟨e, _⟩ | ⟨l, _, a, b, c, _⟩
  · exact e
  · exact absurd c (h l a b)
theorem nextR_bd (xs : List Bool) (i : Nat) (v : Bool) : -1 ≤ nextR xs i v ∧ nextR xs i v < (xs.length : Int) ∨ nextR xs i v = -1 := by
  rcases nextR_spec xs v _ i rfl with ⟨h, _⟩ | ⟨j, h, _, h2, _⟩ <;> omega

/-- k places from i on are there, and none of them is so. -/
def Clear (xs : List Bool) (i k : Nat) : Prop := i + k ≤ xs.length ∧ ∀ t, i ≤ t → t < i + k → xs[t]?.getD false = false
def clrB (xs : List Bool) (i k : Nat) : Bool := decide (i + k ≤ xs.length) && ((xs.drop i).take k).all (fun x => !x)
theorem clrB_iff (xs : List Bool) (i k : Nat) : clrB xs i k = true ↔ Clear xs i k := by
  unfold clrB Clear
  simp only [Bool.and_eq_true, decide_eq_true_eq, List.all_eq_true, Bool.not_eq_true']
  constructor
  · rintro ⟨h1, h2⟩
    refine ⟨h1, fun t a b => ?_⟩
    have hm : xs[t]?.getD false ∈ (xs.drop i).take k := by
      apply List.mem_iff_getElem?.2
      refine ⟨t - i, ?_⟩
      rw [List.getElem?_take, if_pos (by omega), List.getElem?_drop, show i + (t - i) = t by omega]
      simp [show t < xs.length by omega]
    exact h2 _ hm
  · rintro ⟨h1, h2⟩
    refine ⟨h1, fun x hx => ?_⟩
    obtain ⟨j, hj⟩ := List.mem_iff_getElem?.1 hx
    rw [List.getElem?_take] at hj
    split at hj
    · rw [List.getElem?_drop] at hj
      have := h2 (i + j) (by omega) (by omega)
      rw [hj] at this; simpa using this
    · cases hj
/-- The first place from i on, of m more, from which on k places are clear; -1: there is none. -/
def runN (xs : List Bool) (k : Nat) : Nat → Nat → Int
  | 0, _ => -1
  | m + 1, i => if clrB xs i k = true then (i : Int) else runN xs k m (i + 1)
def runR (xs : List Bool) (i k : Nat) : Int := runN xs k (xs.length - i) i

theorem runR_yes (xs : List Bool) (i k : Nat) (hk : 1 ≤ k) (h : Clear xs i k) : runR xs i k = i := by
  obtain ⟨m, hm⟩ : ∃ m, xs.length - i = m + 1 := ⟨xs.length - i - 1, by have := h.1; omega⟩
  unfold runR; rw [hm]; simp only [runN]; rw [if_pos ((clrB_iff _ _ _).2 h)]
theorem runR_no (xs : List Bool) (i k : Nat) (h : ¬ Clear xs i k) : runR xs i k = runR xs (i + 1) k := by
  unfold runR
  rcases Nat.lt_or_ge i xs.length with h1 | h1
  · obtain ⟨m, hm⟩ : ∃ m, xs.length - i = m + 1 := ⟨xs.length - i - 1, by omega⟩
    rw [hm, show xs.length - (i + 1) = m by omega]; simp only [runN]; rw [if_neg (fun e => h ((clrB_iff _ _ _).1 e))]
  · rw [show xs.length - i = 0 by omega, show xs.length - (i + 1) = 0 by omega]; rfl
theorem runR_skip (xs : List Bool) (k d : Nat) : ∀ i, (∀ s, i ≤ s → s < i + d → ¬ Clear xs s k) → runR xs i k = runR xs (i + d) k := by
  induction d with
  | zero => intro i _; rfl
  | succ d ih =>
    intro i h
    rw [runR_no xs i k (h i (by omega) (by omega)), ih (i + 1) (fun s a b => h s (by omega) (by omega)), show i + 1 + d = i + (d + 1) by omega]
theorem runR_end (xs : List Bool) (i k : Nat) (h : xs.length < i + k) : runR xs i k = -1 := by
  have e := runR_skip xs k (xs.length - i) i (fun s a b c => by have := c.1; omega)
  rw [e]; unfold runR; rw [show xs.length - (i + (xs.length - i)) = 0 by omega]; rfl
/-- A run: none, or the first one. -/
theorem runR_spec (xs : List Bool) (k : Nat) (hk : 1 ≤ k) (m : Nat) : ∀ i, xs.length - i = m →
    (runR xs i k = -1 ∧ ∀ s, i ≤ s → ¬ Clear xs s k) ∨ ∃ j : Nat, runR xs i k = j ∧ i ≤ j ∧ Clear xs j k ∧ ∀ s, i ≤ s → s < j → ¬ Clear xs s k := by
  induction m with
  | zero => intro i h; exact .inl ⟨runR_end _ _ _ (by omega), fun s h1 h2 => by have := h2.1; omega⟩
  | succ m ih =>
    intro i h
    by_cases hc : Clear xs i k
    · exact .inr ⟨i, runR_yes _ _ _ hk hc, by omega, hc, fun t h1 h2 => by omega⟩
    · rw [runR_no _ _ _ hc]
      rcases ih (i + 1) (by omega) with ⟨h1, h2⟩ | ⟨j, h1, h2, h3, h5⟩
      · refine .inl ⟨h1, fun t a => ?_⟩
        by_cases e : t = i
        · subst e; exact hc
        · exact h2 t (by omega)
      · refine .inr ⟨j, h1, by omega, h3, fun t a b => ?_⟩
        by_cases e : t = i
        · subst e; exact hc
        · exact h5 t (by omega) b
theorem runR_is (xs : List Bool) (i k j : Nat) (hk : 1 ≤ k) (h1 : i ≤ j) (h2 : Clear xs j k) (h3 : ∀ s, i ≤ s → s < j → ¬ Clear xs s k) : runR xs i k = j := by
  have e := runR_skip xs k (j - i) i (fun s a b => h3 s a (by omega))
  rw [e, show i + (j - i) = j by omega, runR_yes _ _ _ hk h2]
theorem runR_none (xs : List Bool) (i k : Nat) (hk : 1 ≤ k) (h : ∀ s, i ≤ s → ¬ Clear xs s k) : runR xs i k = -1 := by
  rcases runR_spec xs k hk _ i rfl with ⟨e, _⟩ | ⟨j, _, a, b, _⟩
  · exact e
  · exact absurd b (h j a)
/-- A place that is so bars all runs over it. -/
theorem runR_bar (xs : List Bool) (s j k : Nat) (h1 : s ≤ j) (h2 : j < s + k) (hj : xs[j]?.getD false = true) : runR xs s k = runR xs (j + 1) k := by
  have e := runR_skip xs k (j + 1 - s) s (fun t a b c => by have := c.2 j (by omega) (by omega); rw [hj] at this; cases this)
  rw [e, show s + (j + 1 - s) = j + 1 by omega]

/-- How many of the first j are so. -/
def cnt (xs : List Bool) (j : Nat) : Nat := (xs.take j).countP (fun x => x)
theorem cnt_zero (xs : List Bool) : cnt xs 0 = 0 := by simp [cnt]
theorem cnt_step (xs : List Bool) (j : Nat) (h : j < xs.length) : cnt xs (j + 1) = cnt xs j + if xs[j]?.getD false = true then 1 else 0 := by
  unfold cnt
  rw [List.take_succ_eq_append_getElem h, List.countP_append]
  simp [h, List.countP_cons]
theorem cnt_le (xs : List Bool) (j : Nat) : cnt xs j ≤ j := by
  unfold cnt
  exact Nat.le_trans List.countP_le_length (List.length_take_le _ _)
/-- How many are so. -/
def cntA (xs : List Bool) : Nat := cnt xs xs.length
theorem cntA_offs (n : Nat) : cntA (offs n) = 0 := by
  unfold cntA cnt; rw [List.take_of_length_le (Nat.le_refl _)]; simp [offs, List.countP_replicate]
theorem cntA_none (xs : List Bool) (h : ∀ t : Nat, xs[t]?.getD false = false) : cntA xs = 0 := by
  have : xs = offs xs.length := beq_of_getD (by rw [offs_length]) (fun t => by rw [h t, offs_get])
  rw [this]; exact cntA_offs _

/-- The places of L are set to v, one behind the other. -/
def setAll (xs : List Bool) (v : Bool) (L : List Int) : List Bool := L.foldl (fun ys i => ys.set i.toNat v) xs
theorem setAll_length (xs : List Bool) (v : Bool) (L : List Int) : (setAll xs v L).length = xs.length := by
  unfold setAll
  induction L generalizing xs with
  | nil => rfl
  | cons i L ih => simp only [List.foldl_cons]; rw [ih]; simp
theorem setAll_step (xs : List Bool) (v : Bool) (L : List Int) (j : Nat) (h : j < L.length) : setAll xs v (L.take (j + 1)) = (setAll xs v (L.take j)).set (L[j]?.getD 0).toNat v := by
  unfold setAll
  rw [List.take_succ_eq_append_getElem h, List.foldl_append]
  simp [h]
theorem setAll_get (xs : List Bool) (v : Bool) (L : List Int) (hL : ∀ i ∈ L, 0 ≤ i ∧ i < (xs.length : Int)) (t : Nat) :
    (setAll xs v L)[t]?.getD false = if (t : Int) ∈ L then v else xs[t]?.getD false := by
  unfold setAll
  induction L generalizing xs with
  | nil => simp
  | cons i L ih =>
    simp only [List.foldl_cons]
    rw [ih _ (fun k hk => by have := hL k (List.mem_cons_of_mem _ hk); simpa using this)]
    by_cases hm : (t : Int) ∈ L
    · rw [if_pos hm, if_pos (List.mem_cons_of_mem _ hm)]
    · rw [if_neg hm]
      have hi := hL i (List.mem_cons_self ..)
      by_cases e : (t : Int) = i
      · subst e; rw [if_pos (List.mem_cons_self ..), Int.toNat_natCast, bset_same _ _ _ (by omega)]
      · rw [if_neg (by simp [e, hm]), bset_other _ _ _ _ (by omega)]

/-- All of L are places of n. -/
def Fits (n : Nat) (L : List Int) : Prop := ∀ j, j < L.length → 0 ≤ L[j]?.getD 0 ∧ L[j]?.getD 0 < (n : Int)
def fitsB (n : Nat) (L : List Int) : Bool := L.all (fun i => decide (0 ≤ i) && decide (i < (n : Int)))
theorem fitsB_iff (n : Nat) (L : List Int) : fitsB n L = true ↔ ∀ i ∈ L, 0 ≤ i ∧ i < (n : Int) := by
  unfold fitsB; simp [List.all_eq_true]
theorem fitsB_false (n : Nat) (L : List Int) (j : Nat) (h : j < L.length) (hj : ¬ (0 ≤ L[j]?.getD 0 ∧ L[j]?.getD 0 < (n : Int))) : fitsB n L = false := by
  cases hf : fitsB n L
  · rfl
  · exact absurd ((fitsB_iff n L).1 hf _ (by simp [h])) hj
theorem fitsB_true (n : Nat) (L : List Int) (h : ∀ j, j < L.length → 0 ≤ L[j]?.getD 0 ∧ L[j]?.getD 0 < (n : Int)) : fitsB n L = true := by
  rw [fitsB_iff]
  intro i hi
  obtain ⟨j, hj⟩ := List.mem_iff_getElem?.1 hi
  have hl : j < L.length := by
    rcases Nat.lt_or_ge j L.length with h | h
    · exact h
    · rw [List.getElem?_eq_none h] at hj; cases hj
  have := h j hl
  rw [hj] at this; simpa using this
theorem fitsB_get (n : Nat) (L : List Int) (h : fitsB n L = true) (j : Nat) (hj : j < L.length) : 0 ≤ L[j]?.getD 0 ∧ L[j]?.getD 0 < (n : Int) := by
  have := (fitsB_iff n L).1 h (L[j]) (List.getElem_mem ..)
  simpa [hj] using this

/-- A slice of integers, somewhere in memory. -/
structure IntsAt (w : World) (ao : Option Addr) (L : List Int) : Prop where
  cells : 0 < L.length → ∃ b off, ao = some ⟨b, off, none⟩ ∧ b < w.heap.size ∧ ∀ i, i < L.length → w.cell? ⟨b, off + i, none⟩ = some (.int .i64 (L[i]?.getD 0))
  low : ∀ i : Nat, -9223372036854775808 ≤ L[i]?.getD 0
  high : ∀ i : Nat, L[i]?.getD 0 ≤ 9223372036854775807
/-- Its cells lie outside of S. -/
def Off (ao : Option Addr) (S : List Nat) : Prop := ∀ a, ao = some a → a.block ∉ S
theorem IntsAt.keep {S : List Nat} {w w' : World} {ao : Option Addr} {L : List Int} (h : IntsAt w ao L) (k : Keep S w w') (ho : 0 < L.length → Off ao S) : IntsAt w' ao L := by
  refine ⟨fun h0 => ?_, h.low, h.high⟩
  obtain ⟨b, off, rfl, hb, hc⟩ := h.cells h0
  exact ⟨b, off, rfl, Nat.lt_of_lt_of_le hb k.size, fun i hi => (k.cell hb (ho h0 _ rfl) _).trans (hc i hi)⟩
/-- What lies in old memory lies in no block that is new. -/
theorem IntsAt.off {w : World} {ao : Option Addr} {L : List Int} (h : IntsAt w ao L) {S : List Nat} (hS : ∀ k, k ∈ S → w.heap.size ≤ k) : 0 < L.length → Off ao S := by
  intro h0 a e hm
  obtain ⟨b, off, rfl, hb, _⟩ := h.cells h0
  cases e
  have := hS _ hm
  simp only at this
  omega
theorem set_reset (m : Nat) (L : List Int) (hL : ∀ i ∈ L, 0 ≤ i ∧ i < (m : Int)) : cntA (setAll (setAll (offs m) true L) false L) = 0 := by
  apply cntA_none
  intro t
  rw [setAll_get _ _ _ (by rw [setAll_length, offs_length]; exact hL)]
  split
  · rfl
  · rename_i h
    rw [setAll_get _ _ _ (by rw [offs_length]; exact hL), if_neg h, offs_get]
theorem set_has (m : Nat) (L : List Int) (hL : ∀ i ∈ L, 0 ≤ i ∧ i < (m : Int)) (j : Nat) (hj : j < L.length) : (setAll (offs m) true L)[(L[j]?.getD 0).toNat]?.getD false = true := by
  have hm : L[j]?.getD 0 ∈ L := by simp [hj]
  have hb := hL _ hm
  rw [setAll_get _ _ _ (by rw [offs_length]; exact hL), if_pos (by rw [Int.toNat_of_nonneg hb.1]; exact hm)]

/-- A slice of bytes, somewhere in memory. -/
structure U8At (w : World) (ao : Option Addr) (n : Nat) (A : Nat → Nat) : Prop where
  cells : 0 < n → ∃ b off, ao = some ⟨b, off, none⟩ ∧ b < w.heap.size ∧ ∀ i, i < n → w.cell? ⟨b, off + i, none⟩ = some (.int .u8 (A i))
  lt : ∀ i, A i < 256
theorem U8At.keep {S : List Nat} {w w' : World} {ao : Option Addr} {n : Nat} {A : Nat → Nat} (h : U8At w ao n A) (k : Keep S w w') (ho : ∀ b, b ∈ S → w.heap.size ≤ b) : U8At w' ao n A := by
  refine ⟨fun h0 => ?_, h.lt⟩
  obtain ⟨b, off, rfl, hb, hc⟩ := h.cells h0
  exact ⟨b, off, rfl, Nat.lt_of_lt_of_le hb k.size, fun i hi => (k.cell hb (fun e => by have := ho b e; omega) _).trans (hc i hi)⟩

theorem cntA_set (xs : List Bool) (k : Nat) (h : k < xs.length) : cntA (xs.set k true) = cntA xs + if xs[k]?.getD false = true then 0 else 1 := by
  unfold cntA cnt
  rw [List.length_set, List.take_of_length_le (by simp), List.take_of_length_le (Nat.le_refl _), List.countP_set h]
  by_cases e : xs[k] = true
  · have : 0 < xs.countP (fun x => x) := List.countP_pos_iff.2 ⟨xs[k], List.getElem_mem .., e⟩
    simp [h, e]; omega
  · simp [h, e]
theorem cnt_gap (xs : List Bool) (d : Nat) : ∀ a, a + d ≤ xs.length → (∀ t, a ≤ t → t < a + d → xs[t]?.getD false = false) → cnt xs (a + d) = cnt xs a := by
  induction d with
  | zero => intro a _ _; rfl
  | succ d ih =>
    intro a h1 h2
    rw [show a + (d + 1) = (a + d) + 1 by omega, cnt_step xs (a + d) (by omega), h2 (a + d) (by omega) (by omega), if_neg (by simp), Nat.add_zero]
    exact ih a (by omega) (fun t c e => h2 t c (by omega))

end Go.Proofs.YtgpidokklhjfdaaGreat

/-
  What each call of package bits does, said of Bits in memory: its block, the block of its places, its places.
-/
namespace Go.Proofs.YtgpidokklhjfdaaGreat
open Go.RowKit

theorem Tryz.infoBool : (Tryz.prog.info? 4).map (fun i => (i.zero, i.size, i.bytes)) = some (some (.bool false), 1, 1) := by kernel_rfl

/-- Block b is Bits whose places xs lie in block g. -/
structure IsBits (w : World) (b g : Nat) (xs : List Bool) : Prop where
  ne : b ≠ g
  head : w.heap[b]? = some (.cells #[.slice (some ⟨g, 0, none⟩) xs.length xs.length] 128 (0, 0))
  row : BRow w 4 g xs
  len : xs.length ≤ 16384

theorem IsBits.cell {w : World} {b g : Nat} {xs : List Bool} (h : IsBits w b g xs) : w.cell? ⟨b, 0, none⟩ = some (.slice (some ⟨g, 0, none⟩) xs.length xs.length) := cell_of_one h.head
theorem IsBits.keep {S : List Nat} {w w' : World} {b g : Nat} {xs : List Bool} (h : IsBits w b g xs) (k : Keep S w w') (hb : b ∉ S) (hg : g ∉ S) : IsBits w' b g xs :=
  ⟨h.ne, k.blk h.head hb, h.row.keep k hg, h.len⟩
theorem IsBits.other {w w' : World} {b g : Nat} {xs ys : List Bool} (h : IsBits w b g xs) (k : Keep [g] w w') (hl : ys.length = xs.length) (r : BRow w' 4 g ys) : IsBits w' b g ys :=
  ⟨h.ne, by rw [hl]; exact k.blk h.head (by simpa using h.ne), r, by rw [hl]; exact h.len⟩
theorem IsBits.lt {w : World} {b g : Nat} {xs : List Bool} (h : IsBits w b g xs) : b < w.heap.size ∧ g < w.heap.size := ⟨lt_of_block h.head, h.row.lt⟩
theorem IsBits.drewN {w : World} {b g : Nat} {xs : List Bool} (h : IsBits w b g xs) (k : Nat) : IsBits (w.drewN k) b g xs := h.keep (Keep.drewN [] w k) (by simp) (by simp)

set_option maxHeartbeats 400000 in
theorem bsize_core (b n : Nat) (ao : Option Addr) (w : World) (hb : w.cell? ⟨b, 0, none⟩ = some (.slice ao n n)) :
    Calls Tryz.prog 35 #[.pointer (some ⟨b, 0, none⟩)] w fun e w' => e = .returned (.int .i64 n) ∧ w = w' := by
  go_enter Tryz.func35, Tryz.ntmps35
  go_wp2
  go_ret
  exact ⟨rfl, rfl⟩
theorem bsize_any (b g : Nat) (xs : List Bool) (w : World) (ha : IsBits w b g xs) :
    Calls Tryz.prog 35 #[.pointer (some ⟨b, 0, none⟩)] w fun e w' => e = .returned (.int .i64 xs.length) ∧ w = w' := bsize_core b _ _ w ha.cell
set_option maxHeartbeats 400000 in
theorem bsize_nil (w : World) :
    Calls Tryz.prog 35 #[.pointer none] w fun e w' => e = .returned (.int .i64 0) ∧ w = w' := by
  go_enter Tryz.func35, Tryz.ntmps35
  go_wp2
  go_ret
  exact ⟨rfl, rfl⟩

/-- Is i a place of n? -/
def isPl (n : Nat) (i : Int) : Bool := decide (0 ≤ i) && decide (i < (n : Int))
theorem isPl_true {n : Nat} {i : Int} (h : 0 ≤ i ∧ i < (n : Int)) : isPl n i = true := by unfold isPl; simp; omega
theorem isPl_false {n : Nat} {i : Int} (h : ¬ (0 ≤ i ∧ i < (n : Int))) : isPl n i = false := by unfold isPl; simp; omega

set_option maxHeartbeats 400000 in
theorem isPlace_core (b n : Nat) (ao : Option Addr) (i : Int) (w : World) (hb : w.cell? ⟨b, 0, none⟩ = some (.slice ao n n)) :
    Calls Tryz.prog 72 #[.pointer (some ⟨b, 0, none⟩), .int .i64 i] w fun e w' => e = .returned (.bool (isPl n i)) ∧ w = w' := by
  by_cases h0 : 0 ≤ i
  · by_cases h1 : i < (n : Int)
    · rw [isPl_true ⟨h0, h1⟩]
      go_enter Tryz.func72, Tryz.ntmps72
      go_wp2_with (go_at_call 35; refine (bsize_core _ _ _ _ hb).mono ?_; rintro e w' ⟨rfl, rfl⟩)
      go_ret
      exact ⟨rfl, rfl⟩
    · rw [isPl_false (by omega)]
      have hd : decide (i < (n : Int)) = false := by rw [decide_eq_false_iff_not]; exact h1
      go_enter Tryz.func72, Tryz.ntmps72
      go_wp2_with (go_at_call 35; refine (bsize_core _ _ _ _ hb).mono ?_; rintro e w' ⟨rfl, rfl⟩)
      go_ret
      exact ⟨rfl, rfl⟩
  · rw [isPl_false (by omega)]
    go_enter Tryz.func72, Tryz.ntmps72
    go_wp2_with (go_at_call 35; refine (bsize_core _ _ _ _ hb).mono ?_; rintro e w' ⟨rfl, rfl⟩)
    go_ret
    exact ⟨rfl, rfl⟩

set_option maxHeartbeats 400000 in
theorem isPlace_nil (i : Int) (w : World) :
    Calls Tryz.prog 72 #[.pointer none, .int .i64 i] w fun e w' => e = .returned (.bool false) ∧ w = w' := by
  by_cases h0 : 0 ≤ i
  · have hd : decide (i < 0) = false := by rw [decide_eq_false_iff_not]; omega
    go_enter Tryz.func72, Tryz.ntmps72
    go_wp2_with (go_at_call 35; refine (bsize_nil _).mono ?_; rintro e w' ⟨rfl, rfl⟩)
    go_ret
    exact ⟨rfl, rfl⟩
  · go_enter Tryz.func72, Tryz.ntmps72
    go_wp2_with (go_at_call 35; refine (bsize_nil _).mono ?_; rintro e w' ⟨rfl, rfl⟩)
    go_ret
    exact ⟨rfl, rfl⟩

/-- Is i a place that is so? -/
def hasR (xs : List Bool) (i : Int) : Bool := isPl xs.length i && xs[i.toNat]?.getD false

set_option maxHeartbeats 400000 in
theorem bhas_core (b g n : Nat) (i : Nat) (x : Bool) (w : World) (hb : w.cell? ⟨b, 0, none⟩ = some (.slice (some ⟨g, 0, none⟩) n n)) (h : i < n) (hc : w.cell? ⟨g, i, none⟩ = some (.bool x)) :
    Calls Tryz.prog 44 #[.pointer (some ⟨b, 0, none⟩), .int .i64 i] w fun e w' => e = .returned (.bool x) ∧ w = w' := by
  have hd : isPl n (i : Int) = true := isPl_true (by omega)
  go_enter Tryz.func44, Tryz.ntmps44
  go_wp2_with (go_at_call 72; refine (isPlace_core _ _ _ _ _ hb).mono ?_; rw [hd]; rintro e w' ⟨rfl, rfl⟩)
  go_ret
  exact ⟨rfl, rfl⟩
set_option maxHeartbeats 400000 in
theorem bhas_no (b g n : Nat) (i : Int) (w : World) (hb : w.cell? ⟨b, 0, none⟩ = some (.slice (some ⟨g, 0, none⟩) n n)) (h : ¬ (0 ≤ i ∧ i < (n : Int))) :
    Calls Tryz.prog 44 #[.pointer (some ⟨b, 0, none⟩), .int .i64 i] w fun e w' => e = .returned (.bool false) ∧ w = w' := by
  have hd : isPl n i = false := isPl_false h
  go_enter Tryz.func44, Tryz.ntmps44
  go_wp2_with (go_at_call 72; refine (isPlace_core _ _ _ _ _ hb).mono ?_; rw [hd]; rintro e w' ⟨rfl, rfl⟩)
  go_ret
  exact ⟨rfl, rfl⟩
theorem bhas_any (b g : Nat) (i : Int) (xs : List Bool) (w : World) (ha : IsBits w b g xs) :
    Calls Tryz.prog 44 #[.pointer (some ⟨b, 0, none⟩), .int .i64 i] w fun e w' => e = .returned (.bool (hasR xs i)) ∧ w = w' := by
  by_cases h : 0 ≤ i ∧ i < (xs.length : Int)
  · obtain ⟨k, rfl⟩ := Int.eq_ofNat_of_zero_le h.1
    rw [show hasR xs (k : Int) = xs[k]?.getD false from by unfold hasR; rw [isPl_true h]; simp]
    exact bhas_core b g _ k _ w ha.cell (by omega) (ha.row.cell (by omega))
  · rw [show hasR xs i = false from by unfold hasR; rw [isPl_false h]; rfl]
    exact bhas_no b g _ i w ha.cell h
set_option maxHeartbeats 400000 in
theorem bhas_nil (i : Int) (w : World) :
    Calls Tryz.prog 44 #[.pointer none, .int .i64 i] w fun e w' => e = .returned (.bool false) ∧ w = w' := by
  go_enter Tryz.func44, Tryz.ntmps44
  go_wp2_with (go_at_call 72; refine (isPlace_nil _ _).mono ?_; rintro e w' ⟨rfl, rfl⟩)
  go_ret
  exact ⟨rfl, rfl⟩

set_option maxHeartbeats 400000 in
theorem bnew_no (n : Int) (w : World) (h : ¬ (0 ≤ n ∧ n ≤ 16384)) :
    Calls Tryz.prog 33 #[.int .i64 n] w fun e w' => e = .returned (.tuple #[.pointer none, .int .i64 1]) ∧ w = w' := by
  by_cases h1 : n < 0
  · go_enter Tryz.func33, Tryz.ntmps33
    go_wp2
    go_ret2
    exact ⟨rfl, rfl⟩
  · have h2 : 16384 < n := by omega
    go_enter Tryz.func33, Tryz.ntmps33
    go_wp2
    go_ret2
    exact ⟨rfl, rfl⟩
set_option maxHeartbeats 400000 in
theorem bnew_core (n : Nat) (w : World) (h2 : n ≤ 16384) :
    Calls Tryz.prog 33 #[.int .i64 n] w fun e w' => e = .returned (.tuple #[.pointer (some ⟨w.heap.size + 1, 0, none⟩), .int .i64 0]) ∧
      w' = (w.alloc (.cells (madeCells #[.bool false] n) 4)).alloc (.cells #[.slice (some ⟨w.heap.size, 0, none⟩) n n] 128) := by
  have hmk : ∀ w, (Instr.makeSlice 40 (.int .i64 (n : Int)) (.int .i64 (n : Int))).run Tryz.prog w = .ok (.slice (some ⟨w.heap.size, 0, none⟩) n n) (w.alloc (.cells (madeCells #[.bool false] n) 4)) :=
    fun w => run_make_row' (P := Tryz.prog) 40 4 (.bool false) 1 Tryz.underlying40 Tryz.infoBool rfl .i64 .i64 n (by omega) (by omega) w
  go_enter Tryz.func33, Tryz.ntmps33
  go_wp2
  go_ret2
  exact ⟨rfl, rfl⟩
/-- The blocks are new ones; which, nobody need know. -/
theorem bnew_ok (n : Nat) (w : World) (h2 : n ≤ 16384) :
    Calls Tryz.prog 33 #[.int .i64 n] w fun e w' => ∃ b g, e = .returned (.tuple #[.pointer (some ⟨b, 0, none⟩), .int .i64 0]) ∧
      IsBits w' b g (offs n) ∧ Keep [] w w' ∧ w.heap.size ≤ b ∧ w.heap.size ≤ g := by
  refine (bnew_core n w h2).mono ?_
  rintro e w' ⟨rfl, rfl⟩
  refine ⟨w.heap.size + 1, w.heap.size, rfl, ⟨by omega, ?_, ?_, by rw [offs_length]; exact h2⟩, (Keep.alloc _ _ _).trans (Keep.alloc _ _ _), by omega, by omega⟩
  · have := heap_alloc_new (w.alloc (.cells (madeCells #[.bool false] n) 4)) (.cells #[.slice (some ⟨w.heap.size, 0, none⟩) n n] 128)
    simpa [offs_length] using this
  · exact (BRow.made w 4 n).keep (Keep.alloc [] _ _) (by simp)

theorem has_nat (xs : List Bool) (k : Nat) (h : k < xs.length) : hasR xs k = xs[k]?.getD false := by
  unfold hasR; rw [isPl_true (by omega)]; simp
theorem max0_nat (f : Int) (h : 0 ≤ f) : max f 0 = f := by omega
theorem max0_neg (f : Int) (h : f < 0) : max f 0 = 0 := by omega

set_option maxHeartbeats 400000 in
theorem bnext_any (b g : Nat) (f : Int) (v : Bool) (xs : List Bool) (w : World) (ha : IsBits w b g xs) (hf : f ≤ 9223372036854775807) :
    Calls Tryz.prog 38 #[.pointer (some ⟨b, 0, none⟩), .int .i64 f, .bool v] w fun e w' => e = .returned (.int .i64 (nextR xs f.toNat v)) ∧ w = w' := by
  have hb := ha.cell
  have hn := ha.len
  have hr := ha.row
  have HR := (show Hid (∀ i : Nat, i < xs.length → w.cell? ⟨g, i, none⟩ = some (.bool (xs[i]?.getD false))) from fun i hi => hr.cell hi)
  clear ha hr
  generalize hN : nextR xs f.toNat v = r
  obtain ⟨i0, hi0, hi1⟩ : ∃ i0 : Nat, i0 = f.toNat ∧ (i0 : Int) ≤ 9223372036854775807 := ⟨_, rfl, by omega⟩
  rw [← hi0] at hN
  have HN := (show Hid (nextR xs i0 v = r) from hN)
  clear hN
  rcases (show f = i0 ∨ f < 0 ∧ i0 = 0 by omega) with rfl | ⟨hneg, rfl⟩
  all_goals
    clear hi0
    go_enter Tryz.func38, Tryz.ntmps38
    go_wp2
    go_loop [7] (fun i => ∃ j : Nat, i = .int .i64 j ∧ (j : Int) ≤ 9223372036854775807 ∧ Hid (nextR xs j v = r)) (fun i => xs.length - (intOf i).toNat)
    case atStart => first | exact ⟨i0, rfl, hi1, HN⟩ | exact ⟨0, rfl, by omega, HN⟩
    case round =>
      obtain ⟨j, rfl, hj, HJ⟩ := hrel
      by_cases hlt : j < xs.length
      · have hc := HR.out j hlt
        by_cases hv : xs[j]?.getD false = v
        · have HF := (show Hid ((j : Int) = r) from (nextR_yes xs j v hlt hv).symm.trans HJ.out)
          rw [hv] at hc
          clear hv
          go_wp2_with (go_at_call 35; refine (bsize_core _ _ _ _ hb).mono ?_; rintro e w' ⟨rfl, rfl⟩)
          go_ret
          exact ⟨by rw [← HF.out]; rfl, rfl⟩
        · have HK := (show Hid (nextR xs (j + 1) v = r) from (nextR_no xs j v hlt hv).symm.trans HJ.out)
          obtain ⟨y, hy⟩ : ∃ y, xs[j]?.getD false = y := ⟨_, rfl⟩
          rw [hy] at hc hv
          have hbq : (y == v) = false := by rw [beq_eq_false_iff_ne]; exact hv
          clear hy hv
          go_wp2_with (go_at_call 35; refine (bsize_core _ _ _ _ hb).mono ?_; rintro e w' ⟨rfl, rfl⟩)
          go_round
          case rel => exact ⟨j + 1, by go_num, by omega, HK⟩
          case measure => simp [intOf]; omega
      · have HF := (show Hid (-1 = r) from (nextR_end xs j v (by omega)).symm.trans HJ.out)
        have hd : decide ((j : Int) < xs.length) = false := by rw [decide_eq_false_iff_not]; omega
        go_wp2_with (go_at_call 35; refine (bsize_core _ _ _ _ hb).mono ?_; rintro e w' ⟨rfl, rfl⟩)
        go_ret
        exact ⟨by rw [← HF.out]; rfl, rfl⟩
set_option maxHeartbeats 400000 in
theorem bnext_nil (f : Int) (v : Bool) (w : World) :
    Calls Tryz.prog 38 #[.pointer none, .int .i64 f, .bool v] w fun e w' => e = .returned (.int .i64 (-1)) ∧ w = w' := by
  by_cases h0 : 0 ≤ f
  all_goals
    go_enter Tryz.func38, Tryz.ntmps38
    go_wp2
    go_loop [7] (fun i => ∃ j : Int, i = .int .i64 j ∧ 0 ≤ j) (fun _ => 0)
    case atStart => first | exact ⟨f, rfl, h0⟩ | exact ⟨0, rfl, by omega⟩
    case round =>
      obtain ⟨j, rfl, hj⟩ := hrel
      have hd : decide (j < 0) = false := by rw [decide_eq_false_iff_not]; omega
      go_wp2_with (go_at_call 35; refine (bsize_nil _).mono ?_; rintro e w' ⟨rfl, rfl⟩)
      go_ret
      exact ⟨rfl, rfl⟩

/-- What Run answers. -/
def runI (xs : List Bool) (f k : Int) : Int := if k < 1 then -1 else runR xs f.toNat k.toNat

set_option maxHeartbeats 400000 in
theorem brun_low (p : Option Addr) (f k : Int) (w : World) (h : k < 1) :
    Calls Tryz.prog 117 #[.pointer p, .int .i64 f, .int .i64 k] w fun e w' => e = .returned (.int .i64 (-1)) ∧ w = w' := by
  go_enter Tryz.func117, Tryz.ntmps117
  go_wp2
  go_ret
  exact ⟨rfl, rfl⟩
set_option maxHeartbeats 400000 in
theorem brun_nil (f k : Int) (w : World) :
    Calls Tryz.prog 117 #[.pointer none, .int .i64 f, .int .i64 k] w fun e w' => e = .returned (.int .i64 (-1)) ∧ w = w' := by
  by_cases h : k < 1
  · exact brun_low none f k w h
  · have hk : decide (k < 1) = false := by rw [decide_eq_false_iff_not]; exact h
    by_cases h0 : 0 ≤ f
    all_goals
      go_enter Tryz.func117, Tryz.ntmps117
      go_wp2
      go_loop [8] (fun i => ∃ j : Int, i = .int .i64 j ∧ 0 ≤ j) (fun _ => 0)
      case atStart => first | exact ⟨f, rfl, h0⟩ | exact ⟨0, rfl, by omega⟩
      case round =>
        obtain ⟨j, rfl, hj⟩ := hrel
        have hd : decide (j < 0) = false := by rw [decide_eq_false_iff_not]; omega
        go_wp2_with (go_at_call 35; refine (bsize_nil _).mono ?_; rintro e w' ⟨rfl, rfl⟩)
        go_ret
        exact ⟨rfl, rfl⟩

/-- c places ahead of j are not so, and no run begins ahead of them. -/
structure Runs (xs : List Bool) (k j c : Nat) (r : Int) : Prop where
  le : c ≤ j
  off : ∀ t, j - c ≤ t → t < j → xs[t]?.getD false = false
  eq : runR xs (j - c) k = r
theorem Runs.hit {xs : List Bool} {k j c : Nat} {r : Int} (h : Runs xs k j c r) (hk : c < k) (hj : xs[j]?.getD false = true) : Runs xs k (j + 1) 0 r :=
  ⟨by omega, fun t a b => by omega, by rw [← h.eq]; exact (runR_bar xs (j - c) j k (by omega) (by have := h.le; omega) hj).symm⟩
theorem Runs.miss {xs : List Bool} {k j c : Nat} {r : Int} (h : Runs xs k j c r) (hj : xs[j]?.getD false = false) : Runs xs k (j + 1) (c + 1) r := by
  refine ⟨by have := h.le; omega, fun t a b => ?_, by rw [show j + 1 - (c + 1) = j - c by omega]; exact h.eq⟩
  by_cases e : t = j
  · subst e; exact hj
  · exact h.off t (by omega) (by omega)
theorem Runs.found {xs : List Bool} {k j c : Nat} {r : Int} (h : Runs xs k j c r) (hl : j < xs.length) (hk : c + 1 = k) (hj : xs[j]?.getD false = false) : (j : Int) - k + 1 = r := by
  have h2 := h.miss hj
  have h3 := h.le
  rw [← h2.eq, show j + 1 - (c + 1) = j - c by omega, runR_yes xs (j - c) k (by omega) ⟨by omega, fun t a b => h2.off t (by omega) (by omega)⟩]
  omega
theorem Runs.over {xs : List Bool} {k j c : Nat} {r : Int} (h : Runs xs k j c r) (hl : xs.length ≤ j) (hk : c < k) : -1 = r := by
  rw [← h.eq, runR_end xs (j - c) k (by have := h.le; omega)]

set_option maxHeartbeats 800000 in
theorem brun_core (b g k : Nat) (f : Int) (xs : List Bool) (w : World) (ha : IsBits w b g xs) (hf : f ≤ 9223372036854775807) (hk1 : 1 ≤ k) (hk2 : (k : Int) ≤ 9223372036854775807) :
    Calls Tryz.prog 117 #[.pointer (some ⟨b, 0, none⟩), .int .i64 f, .int .i64 k] w fun e w' => e = .returned (.int .i64 (runR xs f.toNat k)) ∧ w = w' := by
  have hb := ha.cell
  have hn := ha.len
  have hr := ha.row
  have HR := (show Hid (∀ i : Nat, i < xs.length → w.cell? ⟨g, i, none⟩ = some (.bool (xs[i]?.getD false))) from fun i hi => hr.cell hi)
  clear ha hr
  generalize hN : runR xs f.toNat k = r
  obtain ⟨i0, hi0, hi1⟩ : ∃ i0 : Nat, i0 = f.toNat ∧ (i0 : Int) ≤ 9223372036854775807 := ⟨_, rfl, by omega⟩
  rw [← hi0] at hN
  have HN := (show Hid (Runs xs k i0 0 r) from ⟨by omega, fun t a b => by omega, hN⟩)
  clear hN
  have hkd : decide ((k : Int) < 1) = false := by rw [decide_eq_false_iff_not]; omega
  have hk0 : ((0 : Int) == (k : Int)) = false := by rw [beq_eq_false_iff_ne]; omega
  rcases (show f = i0 ∨ f < 0 ∧ i0 = 0 by omega) with rfl | ⟨hneg, rfl⟩
  all_goals
    clear hi0
    go_enter Tryz.func117, Tryz.ntmps117
    go_wp2
    go_loop [7, 8] (fun c i => ∃ j q : Nat, i = .int .i64 j ∧ c = .int .i64 q ∧ (j : Int) ≤ 9223372036854775807 ∧ q < k ∧ q ≤ j ∧ Hid (Runs xs k j q r)) (fun _ i => xs.length - (intOf i).toNat)
    case atStart => first | exact ⟨i0, 0, rfl, rfl, hi1, by omega, by omega, HN⟩ | exact ⟨0, 0, rfl, rfl, by omega, by omega, by omega, HN⟩
    case round =>
      obtain ⟨j, q, rfl, rfl, hj, hq, hqj, HJ⟩ := hrel
      clear HN
      by_cases hlt : j < xs.length
      · have hc := HR.out j hlt
        by_cases hv : xs[j]?.getD false = true
        · have HK := (show Hid (Runs xs k (j + 1) 0 r) from HJ.out.hit hq hv)
          rw [hv] at hc
          clear hv HJ
          go_wp2_with (go_at_call 35; refine (bsize_core _ _ _ _ hb).mono ?_; rintro e w' ⟨rfl, rfl⟩)
          go_round
          case rel => exact ⟨j + 1, 0, by go_num, rfl, by omega, by omega, by omega, HK⟩
          case measure => simp [intOf]; omega
        · have hv' : xs[j]?.getD false = false := by simpa using hv
          rw [hv'] at hc
          by_cases hk : q + 1 = k
          · have HF := (show Hid ((j : Int) - k + 1 = r) from HJ.out.found hlt hk hv')
            have hkq : ((q : Int) + 1 == (k : Int)) = true := by rw [beq_iff_eq]; omega
            have hk16 : (k : Int) ≤ 16384 := by omega
            clear hv hv' hk HJ
            go_wp2_with (go_at_call 35; refine (bsize_core _ _ _ _ hb).mono ?_; rintro e w' ⟨rfl, rfl⟩)
            go_ret
            exact ⟨by rw [← HF.out]; rfl, rfl⟩
          · have HK := (show Hid (Runs xs k (j + 1) (q + 1) r) from HJ.out.miss hv')
            have hkq : ((q : Int) + 1 == (k : Int)) = false := by rw [beq_eq_false_iff_ne]; omega
            clear hv hv' HJ
            go_wp2_with (go_at_call 35; refine (bsize_core _ _ _ _ hb).mono ?_; rintro e w' ⟨rfl, rfl⟩)
            go_round
            case rel => exact ⟨j + 1, q + 1, by go_num, by go_num, by omega, by omega, by omega, HK⟩
            case measure => simp [intOf]; omega
      · have HF := (show Hid (-1 = r) from HJ.out.over (by omega) hq)
        have hd : decide ((j : Int) < xs.length) = false := by rw [decide_eq_false_iff_not]; omega
        go_wp2_with (go_at_call 35; refine (bsize_core _ _ _ _ hb).mono ?_; rintro e w' ⟨rfl, rfl⟩)
        go_ret
        exact ⟨by rw [← HF.out]; rfl, rfl⟩
theorem brun_any (b g : Nat) (f k : Int) (xs : List Bool) (w : World) (ha : IsBits w b g xs) (hf : f ≤ 9223372036854775807) (hk2 : k ≤ 9223372036854775807) :
    Calls Tryz.prog 117 #[.pointer (some ⟨b, 0, none⟩), .int .i64 f, .int .i64 k] w fun e w' => e = .returned (.int .i64 (runI xs f k)) ∧ w = w' := by
  unfold runI
  by_cases h : k < 1
  · rw [if_pos h]; exact brun_low _ f k w h
  · rw [if_neg h]
    obtain ⟨m, rfl⟩ := Int.eq_ofNat_of_zero_le (show 0 ≤ k by omega)
    exact brun_core b g m f xs w ha hf (by omega) hk2

set_option maxHeartbeats 400000 in
theorem arePlaces_any (b g n c : Nat) (ao : Option Addr) (L : List Int) (w : World) (hb : w.cell? ⟨b, 0, none⟩ = some (.slice (some ⟨g, 0, none⟩) n n)) (hL : IntsAt w ao L) (hl : L.length ≤ 9223372036854775807) :
    Calls Tryz.prog 65 #[.pointer (some ⟨b, 0, none⟩), .slice ao L.length c] w fun e w' => e = .returned (.bool (fitsB n L)) ∧ w = w' := by
  generalize hN : fitsB n L = r
  have HN := (show Hid (fitsB n L = r) from hN)
  have HL := (show Hid (IntsAt w ao L) from hL)
  clear hN hL
  go_enter Tryz.func65, Tryz.ntmps65
  go_wp2
  go_loop [9] (fun i => ∃ j : Nat, i = .int .i64 j ∧ j ≤ L.length ∧ Hid (∀ t, t < j → 0 ≤ L[t]?.getD 0 ∧ L[t]?.getD 0 < (n : Int))) (fun i => L.length - (intOf i).toNat)
  case atStart => exact ⟨0, rfl, by omega, fun t h => by omega⟩
  case round =>
    obtain ⟨j, rfl, hj, HJ⟩ := hrel
    by_cases hlt : j < L.length
    · obtain ⟨ab, off, rfl, hab, hcs⟩ := HL.out.cells (by omega)
      have hc := hcs j hlt
      clear hcs
      by_cases hin : 0 ≤ L[j]?.getD 0 ∧ L[j]?.getD 0 < (n : Int)
      · have HK := (show Hid (∀ t, t < j + 1 → 0 ≤ L[t]?.getD 0 ∧ L[t]?.getD 0 < (n : Int)) from fun t ht => by
          by_cases e : t = j
          · subst e; exact hin
          · exact HJ.out t (by omega))
        have hp : isPl n (L[j]?.getD 0) = true := isPl_true hin
        generalize L[j]?.getD 0 = x at *
        clear HJ hin
        go_wp2_with (go_at_call 72; refine (isPlace_core _ _ _ _ _ hb).mono ?_; rw [hp]; rintro e w' ⟨rfl, rfl⟩)
        go_round
        case rel => exact ⟨j + 1, by go_num, by omega, HK⟩
        case measure => simp [intOf]; omega
      · have hp : isPl n (L[j]?.getD 0) = false := isPl_false hin
        have HF := (show Hid (false = r) from (fitsB_false n L j hlt hin).symm.trans HN.out)
        generalize L[j]?.getD 0 = x at *
        clear HJ hin
        go_wp2_with (go_at_call 72; refine (isPlace_core _ _ _ _ _ hb).mono ?_; rw [hp]; rintro e w' ⟨rfl, rfl⟩)
        go_ret
        exact ⟨by rw [← HF.out]; rfl, rfl⟩
    · have HF := (show Hid (true = r) from (fitsB_true n L (fun t ht => HJ.out t (by omega))).symm.trans HN.out)
      have hd : decide ((j : Int) < L.length) = false := by rw [decide_eq_false_iff_not]; omega
      go_wp2
      go_ret
      exact ⟨by rw [← HF.out]; rfl, rfl⟩

set_option maxHeartbeats 400000 in
theorem bset_nil (v : Bool) (x : Value) (w : World) :
    Calls Tryz.prog 36 #[.pointer none, .bool v, x] w fun e w' => e = .returned (.int .i64 2) ∧ w = w' := by
  go_enter Tryz.func36, Tryz.ntmps36
  go_wp2
  go_ret
  exact ⟨rfl, rfl⟩
set_option maxHeartbeats 400000 in
theorem bset_no (b g c : Nat) (v : Bool) (xs : List Bool) (ao : Option Addr) (L : List Int) (w : World) (ha : IsBits w b g xs) (hL : IntsAt w ao L) (hl : L.length ≤ 9223372036854775807) (hf : fitsB xs.length L = false) :
    Calls Tryz.prog 36 #[.pointer (some ⟨b, 0, none⟩), .bool v, .slice ao L.length c] w fun e w' => e = .returned (.int .i64 2) ∧ w = w' := by
  have hb := ha.cell
  go_enter Tryz.func36, Tryz.ntmps36
  go_wp2_with (go_at_call 65; refine (arePlaces_any _ _ _ _ _ _ _ hb hL hl).mono ?_; rw [hf]; rintro e w' ⟨rfl, rfl⟩)
  go_ret
  exact ⟨rfl, rfl⟩
theorem bset_no' (b g c ln : Nat) (v : Bool) (xs : List Bool) (ao : Option Addr) (L : List Int) (w : World) (hln : L.length = ln) (ha : IsBits w b g xs) (hL : IntsAt w ao L) (hl : ln ≤ 9223372036854775807) (hf : fitsB xs.length L = false) :
    Calls Tryz.prog 36 #[.pointer (some ⟨b, 0, none⟩), .bool v, .slice ao ln c] w fun e w' => e = .returned (.int .i64 2) ∧ w = w' := by
  subst hln; exact bset_no b g c v xs ao L w ha hL hl hf
set_option maxHeartbeats 800000 in
theorem bset_yes (b g c : Nat) (v : Bool) (xs : List Bool) (ao : Option Addr) (L : List Int) (w : World) (ha : IsBits w b g xs) (hL : IntsAt w ao L) (ho : 0 < L.length → Off ao [g]) (hl : L.length ≤ 9223372036854775807) (hf : fitsB xs.length L = true) :
    Calls Tryz.prog 36 #[.pointer (some ⟨b, 0, none⟩), .bool v, .slice ao L.length c] w fun e w' => e = .returned (.int .i64 0) ∧ IsBits w' b g (setAll xs v L) ∧ Keep [g] w w' := by
  have hb := ha.cell
  have HA := (show Hid (IsBits w b g xs) from ha)
  have HL := (show Hid (IntsAt w ao L) from hL)
  have HO := (show Hid (0 < L.length → Off ao [g]) from ho)
  have HF := (show Hid (∀ j, j < L.length → 0 ≤ L[j]?.getD 0 ∧ L[j]?.getD 0 < (xs.length : Int)) from fitsB_get _ _ hf)
  go_enter Tryz.func36, Tryz.ntmps36
  go_wp2_with (go_at_call 65; refine (arePlaces_any _ _ _ _ _ _ _ hb hL hl).mono ?_; rw [hf]; rintro e w' ⟨rfl, rfl⟩)
  clear ha hL ho hf
  go_loopw [19] (fun i wr => ∃ j : Nat, i = .int .i64 j ∧ j ≤ L.length ∧ IsBits wr b g (setAll xs v (L.take j)) ∧ Keep [g] w wr) (fun i _ => L.length - (intOf i).toNat)
  case atStart => exact ⟨0, rfl, by omega, HA.out, Keep.refl _ _⟩
  case round =>
    obtain ⟨j, rfl, hj, hA, hK⟩ := hrel
    by_cases hlt : j < L.length
    · have hL2 := HL.out.keep hK HO.out
      obtain ⟨ab, off, rfl, hab, hcs⟩ := hL2.cells (by omega)
      have hc := hcs j hlt
      have hin := HF.out j hlt
      have HS := (show Hid (setAll xs v (L.take (j + 1)) = (setAll xs v (L.take j)).set (L[j]?.getD 0).toNat v) from setAll_step xs v L j hlt)
      have hlen := setAll_length xs v (L.take j)
      clear hcs hL2
      generalize L[j]?.getD 0 = x at *
      obtain ⟨k, rfl⟩ := Int.eq_ofNat_of_zero_le hin.1
      rw [Int.toNat_natCast] at HS
      have hk : k < (setAll xs v (L.take j)).length := by omega
      have hR := hA.row.put k v
      have y1 := hA.row.cell hk
      have y2 := hA.row.free k
      have y3 := hA.cell
      rw [hlen] at y3
      have HA2 := (show Hid (IsBits wr b g (setAll xs v (L.take j))) from hA)
      have HR2 := (show Hid (BRow (wr.setCell ⟨g, k, none⟩ (.bool v)) 4 g ((setAll xs v (L.take j)).set k v)) from hR)
      clear hA hR hlen hk
      generalize (setAll xs v (L.take j)) = ys at *
      go_wp2
      go_roundw
      case rel =>
        have hK2 : Keep [g] wr (wr.setCell ⟨g, k, none⟩ (.bool v)) := Keep.setCell _ _ (by simp)
        exact ⟨j + 1, by go_num, by omega, by rw [HS.out]; exact HA2.out.other hK2 (by simp) HR2.out, hK.trans hK2⟩
      case measure => simp [intOf]; omega
    · have HT := (show Hid (L.take j = L) from List.take_of_length_le (by omega))
      rw [HT.out] at hA
      have hd : decide ((j : Int) < L.length) = false := by rw [decide_eq_false_iff_not]; omega
      go_wp2
      go_ret
      exact ⟨rfl, hA, hK⟩

/-- What Set leaves, and what it answers, whatever it is given. -/
def setR (xs : List Bool) (v : Bool) (L : List Int) : List Bool := if fitsB xs.length L = true then setAll xs v L else xs
def setE (n : Nat) (L : List Int) : Int := if fitsB n L = true then 0 else 2
theorem setR_length (xs : List Bool) (v : Bool) (L : List Int) : (setR xs v L).length = xs.length := by
  unfold setR; split
  · exact setAll_length _ _ _
  · rfl
theorem bset_any (b g c : Nat) (v : Bool) (xs : List Bool) (ao : Option Addr) (L : List Int) (w : World) (ha : IsBits w b g xs) (hL : IntsAt w ao L) (ho : 0 < L.length → Off ao [g]) (hl : L.length ≤ 9223372036854775807) :
    Calls Tryz.prog 36 #[.pointer (some ⟨b, 0, none⟩), .bool v, .slice ao L.length c] w fun e w' => e = .returned (.int .i64 (setE xs.length L)) ∧ IsBits w' b g (setR xs v L) ∧ Keep [g] w w' := by
  unfold setE setR
  by_cases hf : fitsB xs.length L = true
  · simp only [if_pos hf]; exact bset_yes b g c v xs ao L w ha hL ho hl hf
  · simp only [if_neg hf]
    refine (bset_no b g c v xs ao L w ha hL hl (by simpa using hf)).mono ?_
    rintro e w' ⟨rfl, rfl⟩
    exact ⟨rfl, ha, Keep.refl _ _⟩

theorem IntsAt.one (w : World) (t : TypeId) (x : Int) (h1 : -9223372036854775808 ≤ x) (h2 : x ≤ 9223372036854775807) : IntsAt (w.alloc (.cells #[.int .i64 x] t)) (some ⟨w.heap.size, 0, none⟩) [x] := by
  refine ⟨fun _ => ⟨w.heap.size, 0, rfl, by simp, fun i hi => ?_⟩, fun i => ?_, fun i => ?_⟩
  · obtain rfl : i = 0 := by simpa using hi
    exact cell_of_one (heap_alloc_new w _)
  · rcases i with _ | i <;> simp; omega
  · rcases i with _ | i <;> simp; omega
/-- One place is set, told by a list that is new. -/
theorem bset_one (b g j : Nat) (v : Bool) (xs : List Bool) (w : World) (ha : IsBits w b g xs) (hj : j < xs.length) :
    Calls Tryz.prog 36 #[.pointer (some ⟨b, 0, none⟩), .bool v, .slice (some ⟨w.heap.size, 0, none⟩) 1 1] (w.alloc (.cells #[.int .i64 j] 3)) fun e w' => e = .returned (.int .i64 0) ∧ IsBits w' b g (xs.set j v) ∧ Keep [g] w w' := by
  have hk := Keep.alloc [] w (.cells #[.int .i64 j] 3)
  have hl := ha.lt
  have hn := ha.len
  refine (bset_yes b g 1 v xs _ [(j : Int)] _ (ha.keep hk (by simp) (by simp)) (IntsAt.one w 3 j (by omega) (by omega)) (fun _ a e => by cases e; simp; omega) (by simp) ?_).mono ?_
  · rw [fitsB_iff]; intro i hi; obtain rfl := List.mem_singleton.1 hi; omega
  · rintro e w' ⟨rfl, h1, h2⟩
    exact ⟨rfl, h1, (hk.mono (by simp)).trans h2⟩
theorem bset_one' (b g j z : Nat) (v : Bool) (xs : List Bool) (w : World) (hz : w.heap.size = z) (ha : IsBits w b g xs) (hj : j < xs.length) :
    Calls Tryz.prog 36 #[.pointer (some ⟨b, 0, none⟩), .bool v, .slice (some ⟨z, 0, none⟩) 1 1] (w.alloc (.cells #[.int .i64 j] 3)) fun e w' => e = .returned (.int .i64 0) ∧ IsBits w' b g (xs.set j v) ∧ Keep [g] w w' := by
  subst hz; exact bset_one b g j v xs w ha hj

end Go.Proofs.YtgpidokklhjfdaaGreat

/-
  Plain facts on places side by side: the list of their numbers, what is left once they are set, whether all are so. They speak of no program.
-/
namespace Go.Proofs.YtgpidokklhjfdaaGreat
open Go.RowKit

/-- The numbers of k places from a on. -/
def rowL (a k : Nat) : List Int := (List.range k).map (fun i => ((a + i : Nat) : Int))
theorem rowL_length (a k : Nat) : (rowL a k).length = k := by simp [rowL]
theorem rowL_get (a k i : Nat) (h : i < k) : (rowL a k)[i]?.getD 0 = ((a + i : Nat) : Int) := by simp [rowL, h]
theorem rowL_mem (a k t : Nat) : (t : Int) ∈ rowL a k ↔ a ≤ t ∧ t < a + k := by
  unfold rowL
  rw [List.mem_map]
  constructor
  · rintro ⟨i, hi, e⟩
    have := List.mem_range.1 hi
    omega
  · intro h
    exact ⟨t - a, List.mem_range.2 (by omega), by omega⟩
theorem rowL_fits (a k n : Nat) (h : a + k ≤ n) : ∀ i ∈ rowL a k, 0 ≤ i ∧ i < (n : Int) := by
  intro i hi
  unfold rowL at hi
  obtain ⟨j, hj, rfl⟩ := List.mem_map.1 hi
  have := List.mem_range.1 hj
  omega
theorem rowL_fitsB (a k n : Nat) (h : a + k ≤ n) : fitsB n (rowL a k) = true := (fitsB_iff n _).2 (rowL_fits a k n h)

/-- k places from a on are set to v. -/
def putR (xs : List Bool) (a k : Nat) (v : Bool) : List Bool := setAll xs v (rowL a k)
theorem putR_length (xs : List Bool) (a k : Nat) (v : Bool) : (putR xs a k v).length = xs.length := setAll_length _ _ _
theorem putR_get (xs : List Bool) (a k : Nat) (v : Bool) (h : a + k ≤ xs.length) (t : Nat) :
    (putR xs a k v)[t]?.getD false = if a ≤ t ∧ t < a + k then v else xs[t]?.getD false := by
  unfold putR
  rw [setAll_get _ _ _ (rowL_fits a k _ h)]
  by_cases hm : a ≤ t ∧ t < a + k
  · rw [if_pos hm, if_pos ((rowL_mem a k t).2 hm)]
  · rw [if_neg hm, if_neg (fun e => hm ((rowL_mem a k t).1 e))]
theorem putR_in (xs : List Bool) (a k : Nat) (v : Bool) (h : a + k ≤ xs.length) (t : Nat) (h1 : a ≤ t) (h2 : t < a + k) : (putR xs a k v)[t]?.getD false = v := by
  rw [putR_get xs a k v h, if_pos ⟨h1, h2⟩]
theorem putR_out (xs : List Bool) (a k : Nat) (v : Bool) (h : a + k ≤ xs.length) (t : Nat) (h1 : t < a ∨ a + k ≤ t) : (putR xs a k v)[t]?.getD false = xs[t]?.getD false := by
  rw [putR_get xs a k v h, if_neg (by omega)]
theorem putR_zero (xs : List Bool) (a : Nat) (v : Bool) : putR xs a 0 v = xs := rfl
theorem rowL_succ (a k : Nat) : rowL a (k + 1) = rowL a k ++ [((a + k : Nat) : Int)] := by
  unfold rowL; rw [List.range_succ, List.map_append]; rfl
theorem putR_succ (xs : List Bool) (a k : Nat) (v : Bool) : putR xs a (k + 1) v = (putR xs a k v).set (a + k) v := by
  unfold putR setAll
  rw [rowL_succ, List.foldl_append]
  simp only [List.foldl_cons, List.foldl_nil, Int.toNat_natCast]
theorem putR_one (xs : List Bool) (a : Nat) (v : Bool) : putR xs a 1 v = xs.set a v := by
  rw [putR_succ, putR_zero]; rfl

/-- k places from a on are there, and all of them are so. -/
def Full (xs : List Bool) (a k : Nat) : Prop := ∀ t, a ≤ t → t < a + k → t < xs.length ∧ xs[t]?.getD false = true
def fullB (xs : List Bool) (a k : Nat) : Bool := decide (a + k ≤ xs.length) && ((xs.drop a).take k).all (fun x => x)
theorem fullB_iff (xs : List Bool) (a k : Nat) (hk : 1 ≤ k) : fullB xs a k = true ↔ Full xs a k := by
  unfold fullB Full
  simp only [Bool.and_eq_true, decide_eq_true_eq, List.all_eq_true]
  constructor
  · rintro ⟨h1, h2⟩ t p q
    have hm : xs[t]?.getD false ∈ (xs.drop a).take k := by
      apply List.mem_iff_getElem?.2
      refine ⟨t - a, ?_⟩
      rw [List.getElem?_take, if_pos (by omega), List.getElem?_drop, show a + (t - a) = t by omega]
      simp [show t < xs.length by omega]
    exact ⟨by omega, h2 _ hm⟩
  · intro h2
    have hl : a + k ≤ xs.length := by have := (h2 (a + k - 1) (by omega) (by omega)).1; omega
    refine ⟨hl, fun x hx => ?_⟩
    obtain ⟨j, hj⟩ := List.mem_iff_getElem?.1 hx
    rw [List.getElem?_take] at hj
    split at hj
    · rw [List.getElem?_drop] at hj
      have := (h2 (a + j) (by omega) (by omega)).2
      rw [hj] at this; simpa using this
    · cases hj
theorem fullB_len (xs : List Bool) (a k : Nat) (h : fullB xs a k = true) : a + k ≤ xs.length := by
  unfold fullB at h; rw [Bool.and_eq_true, decide_eq_true_eq] at h; exact h.1
theorem fullB_no (xs : List Bool) (a k t : Nat) (h1 : a ≤ t) (h2 : t < a + k) (h : xs.length ≤ t ∨ xs[t]?.getD false = false) : fullB xs a k = false := by
  cases hf : fullB xs a k
  · rfl
  · have := (fullB_iff xs a k (by omega)).1 hf t h1 h2
    rcases h with h | h
    · omega
    · rw [h] at this; cases this.2

/-- What Take and Give leave, and what they answer, whatever they are given. -/
def takeP (xs : List Bool) (k : Int) : Int := if k < 1 then -1 else runR xs 0 k.toNat
def takeN (xs : List Bool) (k : Int) : Int := if takeP xs k < 0 then 0 else takeP xs k
def takeE (xs : List Bool) (k : Int) : Int := if k < 1 then 1 else if takeP xs k < 0 then 3 else 0
def takeR (xs : List Bool) (k : Int) : List Bool := if takeP xs k < 0 then xs else putR xs (takeP xs k).toNat k.toNat true
def giveE (xs : List Bool) (a k : Int) : Int := if k < 1 ∨ a < 1 then 1 else if fullB xs a.toNat k.toNat = true then 0 else 2
def giveR (xs : List Bool) (a k : Int) : List Bool := if k < 1 ∨ a < 1 then xs else if fullB xs a.toNat k.toNat = true then putR xs a.toNat k.toNat false else xs
theorem takeR_length (xs : List Bool) (k : Int) : (takeR xs k).length = xs.length := by
  unfold takeR; split
  · rfl
  · exact putR_length _ _ _ _
theorem giveR_length (xs : List Bool) (a k : Int) : (giveR xs a k).length = xs.length := by
  unfold giveR; split
  · rfl
  · split
    · exact putR_length _ _ _ _
    · rfl
theorem take_low (xs : List Bool) (k : Int) (h : k < 1) : takeN xs k = 0 ∧ takeE xs k = 1 ∧ takeR xs k = xs := by
  have e : takeP xs k = -1 := by unfold takeP; rw [if_pos h]
  refine ⟨?_, ?_, ?_⟩
  · unfold takeN; rw [e]; rfl
  · unfold takeE; rw [if_pos h]
  · unfold takeR; rw [e]; rfl
theorem take_no (xs : List Bool) (k : Nat) (hk : 1 ≤ k) (h : runR xs 0 k = -1) : takeN xs k = 0 ∧ takeE xs k = 3 ∧ takeR xs k = xs := by
  have e : takeP xs k = -1 := by unfold takeP; rw [if_neg (by omega), Int.toNat_natCast]; exact h
  refine ⟨?_, ?_, ?_⟩
  · unfold takeN; rw [e]; rfl
  · unfold takeE; rw [e, if_neg (by omega)]; rfl
  · unfold takeR; rw [e]; rfl
theorem take_yes (xs : List Bool) (k p : Nat) (hk : 1 ≤ k) (h : runR xs 0 k = p) : takeN xs k = p ∧ takeE xs k = 0 ∧ takeR xs k = putR xs p k true := by
  have e : takeP xs k = p := by unfold takeP; rw [if_neg (by omega), Int.toNat_natCast]; exact h
  refine ⟨?_, ?_, ?_⟩
  · unfold takeN; rw [e, if_neg (by omega)]
  · unfold takeE; rw [e, if_neg (by omega), if_neg (by omega)]
  · unfold takeR; rw [e, if_neg (by omega), Int.toNat_natCast, Int.toNat_natCast]
theorem give_arg (xs : List Bool) (a k : Int) (h : k < 1 ∨ a < 1) : giveE xs a k = 1 ∧ giveR xs a k = xs := by
  unfold giveE giveR; rw [if_pos h, if_pos h]; exact ⟨rfl, rfl⟩
theorem give_no (xs : List Bool) (a k : Nat) (h1 : 1 ≤ a) (h2 : 1 ≤ k) (h : fullB xs a k = false) : giveE xs a k = 2 ∧ giveR xs a k = xs := by
  unfold giveE giveR; simp only [Int.toNat_natCast]; simp only [if_neg (show ¬ ((k : Int) < 1 ∨ (a : Int) < 1) by omega), h]; exact ⟨rfl, rfl⟩
theorem give_yes (xs : List Bool) (a k : Nat) (h1 : 1 ≤ a) (h2 : 1 ≤ k) (h : fullB xs a k = true) : giveE xs a k = 0 ∧ giveR xs a k = putR xs a k false := by
  unfold giveE giveR; simp only [Int.toNat_natCast]; simp only [if_neg (show ¬ ((k : Int) < 1 ∨ (a : Int) < 1) by omega), h]; exact ⟨rfl, rfl⟩

/-- How many are so, once places that were not are, or that were are not. -/
theorem cntA_off (xs : List Bool) (k : Nat) (h : k < xs.length) : cntA (xs.set k false) = cntA xs - if xs[k]?.getD false = true then 1 else 0 := by
  unfold cntA cnt
  rw [List.length_set, List.take_of_length_le (by simp), List.take_of_length_le (Nat.le_refl _), List.countP_set h]
  by_cases e : xs[k] = true
  · simp [h, e]
  · simp [h, e]
theorem cntA_pos (xs : List Bool) (k : Nat) (h : k < xs.length) (hk : xs[k]?.getD false = true) : 1 ≤ cntA xs := by
  unfold cntA cnt
  rw [List.take_of_length_le (Nat.le_refl _)]
  have e : xs[k] = true := by simpa [h] using hk
  exact List.countP_pos_iff.2 ⟨xs[k], List.getElem_mem .., e⟩
theorem cntA_le (xs : List Bool) : cntA xs ≤ xs.length := cnt_le _ _
theorem cntA_put (xs : List Bool) (a k : Nat) (h : Clear xs a k) : cntA (putR xs a k true) = cntA xs + k := by
  induction k with
  | zero => rfl
  | succ k ih =>
    have h1 := h.1
    have e1 := ih ⟨by omega, fun t p q => h.2 t p (by omega)⟩
    have e2 := putR_out xs a k true (by omega) (a + k) (by omega)
    rw [h.2 (a + k) (by omega) (by omega)] at e2
    rw [putR_succ, cntA_set _ _ (by rw [putR_length]; omega), e1, e2, if_neg (by simp)]
    omega
theorem cntA_take (xs : List Bool) (a k : Nat) (hk : 1 ≤ k) (h : fullB xs a k = true) : cntA (putR xs a k false) + k = cntA xs := by
  have hf := (fullB_iff xs a k hk).1 h
  clear h
  induction k with
  | zero => omega
  | succ k ih =>
    have e0 := hf (a + k) (by omega) (by omega)
    rcases Nat.eq_zero_or_pos k with rfl | hk0
    · have e4 : a < xs.length ∧ xs[a]?.getD false = true := e0
      have := cntA_pos xs a e4.1 e4.2
      rw [putR_one, cntA_off _ _ e4.1, if_pos e4.2]; omega
    · have e1 := ih hk0 (fun t p q => hf t p (by omega))
      have e2 := putR_out xs a k false (by omega) (a + k) (by omega)
      have e3 := cntA_pos (putR xs a k false) (a + k) (by rw [putR_length]; exact e0.1) (by rw [e2]; exact e0.2)
      rw [putR_succ, cntA_off _ _ (by rw [putR_length]; exact e0.1), e2, if_pos e0.2]
      omega

end Go.Proofs.YtgpidokklhjfdaaGreat

/-
  What each call of package size does, and of the document's own.
-/
namespace Go.Proofs.YtgpidokklhjfdaaGreat
open Go.RowKit

def sizesL : List Int := [2, 4, 8, 16, 32]
def classI (n : Int) : Int := if n < 1 then -1 else if n ≤ 2 then 0 else if n ≤ 4 then 1 else if n ≤ 8 then 2 else if n ≤ 16 then 3 else if n ≤ 32 then 4 else -1
def pagesI (n : Int) : Int := if n < 33 then 0 else if n ≤ 1024 then (n + 63) / 64 else 0
def blockI (n : Int) : Int := if 0 ≤ classI n then sizesL[(classI n).toNat]?.getD 0 else pagesI n * 64

theorem sizesL_length : sizesL.length = 5 := rfl
theorem class_at (n : Int) (j : Nat) (hj : j < 5) (hn : 1 ≤ n) (h : ∀ t, t < j → sizesL[t]?.getD 0 < n) (hx : n ≤ sizesL[j]?.getD 0) : classI n = j := by
  unfold classI
  rcases (show j = 0 ∨ j = 1 ∨ j = 2 ∨ j = 3 ∨ j = 4 by omega) with rfl | rfl | rfl | rfl | rfl
  · simp [sizesL] at hx; split <;> omega
  · have := h 0 (by omega); simp [sizesL] at hx this; repeat' split
    all_goals omega
  · have := h 1 (by omega); simp [sizesL] at hx this; repeat' split
    all_goals omega
  · have := h 2 (by omega); simp [sizesL] at hx this; repeat' split
    all_goals omega
  · have := h 3 (by omega); simp [sizesL] at hx this; repeat' split
    all_goals omega
theorem class_none (n : Int) (h : ∀ t, t < 5 → sizesL[t]?.getD 0 < n) : classI n = -1 := by
  have := h 4 (by omega); simp [sizesL] at this
  unfold classI; repeat' split
  all_goals omega
theorem class_low (n : Int) (h : n < 1) : classI n = -1 := by unfold classI; rw [if_pos h]
theorem class_lt (n : Int) : classI n = -1 ∨ ∃ j : Nat, classI n = j ∧ j < 5 := by
  unfold classI; repeat' split
  all_goals first | exact .inl rfl | (right; first | exact ⟨0, rfl, by omega⟩ | exact ⟨1, rfl, by omega⟩ | exact ⟨2, rfl, by omega⟩ | exact ⟨3, rfl, by omega⟩ | exact ⟨4, rfl, by omega⟩)
theorem class_iff (n : Int) : 0 ≤ classI n ↔ 1 ≤ n ∧ n ≤ 32 := by
  unfold classI; repeat' split
  all_goals omega

set_option maxHeartbeats 400000 in
theorem sizes_any (w : World) :
    Calls Tryz.prog 104 #[] w fun e w' => ∃ g, e = .returned (.slice (some ⟨g, 0, none⟩) 5 5) ∧ Row w' 3 g sizesL ∧ Keep [] w w' ∧ w.heap.size ≤ g := by
  go_enter Tryz.func104, Tryz.ntmps104
  go_wp2
  go_ret
  exact ⟨_, rfl, heap_alloc_new _ _, Keep.alloc _ _ _, Nat.le_refl _⟩

set_option maxHeartbeats 400000 in
theorem class_any (n : Int) (w : World) :
    Calls Tryz.prog 103 #[.int .i64 n] w fun e w' => e = .returned (.int .i64 (classI n)) ∧ Keep [] w w' := by
  by_cases hn : n < 1
  · rw [class_low n hn]
    go_enter Tryz.func103, Tryz.ntmps103
    go_wp2
    go_ret
    exact ⟨rfl, Keep.refl _ _⟩
  · go_enter Tryz.func103, Tryz.ntmps103
    go_wp2_with (go_at_call 104; refine (sizes_any _).mono ?_; rintro e w1 ⟨g, rfl, hr, hK, hg⟩)
    have HR := (show Hid (∀ i : Nat, i < 5 → w1.cell? ⟨g, i, none⟩ = some (.int .i64 (sizesL[i]?.getD 0))) from fun i hi => hr.cell hi)
    go_loop [9] (fun i => ∃ j : Nat, i = .int .i64 j ∧ j ≤ 5 ∧ Hid (∀ t, t < j → sizesL[t]?.getD 0 < n)) (fun i => 5 - (intOf i).toNat)
    case atStart => exact ⟨0, rfl, by omega, show (∀ t, t < 0 → _) from fun t h => by omega⟩
    case round =>
      obtain ⟨j, rfl, hj, HJ⟩ := hrel
      by_cases hlt : j < 5
      · have hc := HR.out j hlt
        obtain ⟨x, hx⟩ : ∃ x, sizesL[j]?.getD 0 = x := ⟨_, rfl⟩
        rw [hx] at hc
        by_cases hv : n ≤ x
        · have HF := (show Hid (classI n = j) from class_at n j hlt (by omega) HJ.out (by omega))
          clear hx
          go_wp2
          go_ret
          exact ⟨by rw [HF.out]; rfl, hK⟩
        · have HF := (show Hid (∀ t, t < j + 1 → sizesL[t]?.getD 0 < n) from fun t ht => by
            by_cases e : t = j
            · subst e; omega
            · exact HJ.out t (by omega))
          clear hx
          go_wp2
          go_round
          case rel => exact ⟨j + 1, by go_num, by omega, HF⟩
          case measure => simp [intOf]; omega
      · obtain rfl : j = 5 := by omega
        have HF := (show Hid (classI n = -1) from class_none n HJ.out)
        go_wp2
        go_ret
        exact ⟨by rw [HF.out]; rfl, hK⟩

theorem pages_low (n : Int) (h : n < 1) : pagesI n = 0 := by unfold pagesI; rw [if_pos (by omega)]
theorem pages_high (n : Int) (h : 1024 < n) : pagesI n = 0 := by unfold pagesI; rw [if_neg (by omega), if_neg (by omega)]
theorem pages_class (n : Int) (h : n ≤ 32) : pagesI n = 0 := by unfold pagesI; rw [if_pos (by omega)]
theorem pages_mid (n : Int) (h : 33 ≤ n) (h2 : n ≤ 1024) : pagesI n = (n + 63) / 64 := by unfold pagesI; rw [if_neg (by omega), if_pos h2]
theorem pages_le (n : Int) : 0 ≤ pagesI n ∧ pagesI n ≤ 16 := by
  unfold pagesI; repeat' split
  all_goals omega
theorem block_class (n : Int) (j : Nat) (h : classI n = j) : blockI n = sizesL[j]?.getD 0 := by unfold blockI; rw [h, if_pos (by omega)]; rfl
theorem block_none (n : Int) (h : classI n = -1) : blockI n = pagesI n * 64 := by unfold blockI; rw [h, if_neg (by omega)]
theorem sizes_le (j : Nat) : 0 ≤ sizesL[j]?.getD 0 ∧ sizesL[j]?.getD 0 ≤ 32 := by
  rcases (show j = 0 ∨ j = 1 ∨ j = 2 ∨ j = 3 ∨ j = 4 ∨ 5 ≤ j by omega) with rfl | rfl | rfl | rfl | rfl | h
  all_goals first | (simp [sizesL]; done) | (rw [List.getElem?_eq_none (by rw [sizesL_length]; exact h)]; simp)
theorem block_le (n : Int) : 0 ≤ blockI n ∧ blockI n ≤ 1024 := by
  rcases class_lt n with h | ⟨j, h, _⟩
  · rw [block_none n h]; have := pages_le n; omega
  · rw [block_class n j h]; have := sizes_le j; omega

set_option maxHeartbeats 400000 in
theorem pages_any (n : Int) (w : World) :
    Calls Tryz.prog 105 #[.int .i64 n] w fun e w' => e = .returned (.int .i64 (pagesI n)) ∧ Keep [] w w' := by
  by_cases h1 : n < 1
  · rw [pages_low n h1]
    go_enter Tryz.func105, Tryz.ntmps105
    go_wp2
    go_ret
    exact ⟨rfl, Keep.refl _ _⟩
  · by_cases h2 : 1024 < n
    · rw [pages_high n h2]
      go_enter Tryz.func105, Tryz.ntmps105
      go_wp2
      go_ret
      exact ⟨rfl, Keep.refl _ _⟩
    · by_cases h3 : n ≤ 32
      · have hc := (class_iff n).2 ⟨by omega, h3⟩
        rw [pages_class n h3]
        go_enter Tryz.func105, Tryz.ntmps105
        go_wp2_with (go_at_call 103; refine (class_any _ _).mono ?_; rintro e w1 ⟨rfl, hK⟩)
        go_ret
        exact ⟨rfl, hK⟩
      · have hc := class_none n (fun t _ => by have := sizes_le t; omega)
        rw [pages_mid n (by omega) (by omega)]
        go_enter Tryz.func105, Tryz.ntmps105
        go_wp2_with (go_at_call 103; refine (class_any _ _).mono ?_; rw [hc]; rintro e w1 ⟨rfl, hK⟩)
        go_ret
        refine ⟨?_, hK⟩
        go_num

set_option maxHeartbeats 400000 in
theorem block_any (n : Int) (w : World) :
    Calls Tryz.prog 84 #[.int .i64 n] w fun e w' => e = .returned (.int .i64 (blockI n)) ∧ Keep [] w w' := by
  rcases class_lt n with hc | ⟨j, hc, hj⟩
  · rw [block_none n hc]
    have hp := pages_le n
    go_enter Tryz.func84, Tryz.ntmps84
    go_wp2_with (first | (go_at_call 103; refine (class_any _ _).mono ?_; rw [hc]; rintro e w1 ⟨rfl, hK⟩) | (go_at_call 105; refine (pages_any _ _).mono ?_; rintro e w2 ⟨rfl, hK2⟩))
    go_ret
    exact ⟨by go_num, hK.trans hK2⟩
  · rw [block_class n j hc]
    go_enter Tryz.func84, Tryz.ntmps84
    go_wp2_with (first | (go_at_call 103; refine (class_any _ _).mono ?_; rw [hc]; rintro e w1 ⟨rfl, hK⟩) | (go_at_call 104; refine (sizes_any _).mono ?_; rintro e w2 ⟨g, rfl, hr, hK2, hg⟩; have hx := hr.cell (i := j) hj))
    go_ret
    exact ⟨rfl, hK.trans hK2⟩

/-- The blocks of a list, together. -/
def sumB (L : List Int) : Int := (L.map blockI).sum
theorem sumB_nil : sumB [] = 0 := rfl
theorem sumB_app (L M : List Int) : sumB (L ++ M) = sumB L + sumB M := by simp [sumB]
theorem sumB_snoc (L : List Int) (x : Int) : sumB (L ++ [x]) = sumB L + blockI x := by simp [sumB]
theorem take_snoc (L : List Int) (j : Nat) (h : j < L.length) : L.take (j + 1) = L.take j ++ [L[j]?.getD 0] := by
  rw [List.take_add_one]; simp [h]
theorem sumB_le (L : List Int) : 0 ≤ sumB L ∧ sumB L ≤ 1024 * L.length := by
  induction L with
  | nil => simp [sumB]
  | cons x L ih => have := block_le x; simp [sumB] at *; omega

set_option maxHeartbeats 400000 in
theorem rsizes_any (w : World) :
    Calls Tryz.prog 77 #[] w fun e w' => ∃ g, e = .returned (.slice (some ⟨g, 0, none⟩) 5 5) ∧ Row w' 3 g sizesL ∧ Keep [] w w' ∧ w.heap.size ≤ g := by
  go_enter Tryz.func77, Tryz.ntmps77
  go_wp2
  go_ret
  exact ⟨_, rfl, heap_alloc_new _ _, Keep.alloc _ _ _, Nat.le_refl _⟩

set_option maxHeartbeats 400000 in
theorem rclass_any (n : Int) (w : World) :
    Calls Tryz.prog 91 #[.int .i64 n] w fun e w' => e = .returned (.int .i64 (classI n)) ∧ Keep [] w w' := by
  go_enter Tryz.func91, Tryz.ntmps91
  go_wp2_with (go_at_call 77; refine (rsizes_any _).mono ?_; rintro e w1 ⟨g, rfl, hr, hK, hg⟩)
  have HR := (show Hid (∀ i : Nat, i < 5 → w1.cell? ⟨g, i, none⟩ = some (.int .i64 (sizesL[i]?.getD 0))) from fun i hi => hr.cell hi)
  go_loop [4] (fun i => ∃ j : Nat, i = .int .i64 j ∧ j ≤ 5 ∧ Hid (∀ t, t < j → sizesL[t]?.getD 0 < n)) (fun i => 5 - (intOf i).toNat)
  case atStart => exact ⟨0, rfl, by omega, show (∀ t, t < 0 → _) from fun t h => by omega⟩
  case round =>
    obtain ⟨j, rfl, hj, HJ⟩ := hrel
    by_cases hlt : j < 5
    · have hd : decide ((j : Int) < 5) = true := by rw [decide_eq_true_iff]; omega
      by_cases hn : n < 1
      · have hd2 : decide (1 ≤ n) = false := by rw [decide_eq_false_iff_not]; omega
        have HF := (show Hid (classI n = -1) from class_low n hn)
        go_wp2
        go_ret
        exact ⟨by rw [HF.out]; rfl, hK⟩
      · have hd2 : decide (1 ≤ n) = true := by rw [decide_eq_true_iff]; omega
        have hc := HR.out j hlt
        obtain ⟨x, hx⟩ : ∃ x, sizesL[j]?.getD 0 = x := ⟨_, rfl⟩
        rw [hx] at hc
        by_cases hv : n ≤ x
        · have HF := (show Hid (classI n = j) from class_at n j hlt (by omega) HJ.out (by omega))
          clear hx
          go_wp2
          go_ret
          exact ⟨by rw [HF.out]; rfl, hK⟩
        · have HF := (show Hid (∀ t, t < j + 1 → sizesL[t]?.getD 0 < n) from fun t ht => by
            by_cases e : t = j
            · subst e; omega
            · exact HJ.out t (by omega))
          clear hx
          go_wp2
          go_round
          case rel => exact ⟨j + 1, by go_num, by omega, HF⟩
          case measure => simp [intOf]; omega
    · obtain rfl : j = 5 := by omega
      have HF := (show Hid (classI n = -1) from class_none n HJ.out)
      go_wp2
      go_ret
      exact ⟨by rw [HF.out]; rfl, hK⟩

set_option maxHeartbeats 400000 in
theorem rblock_any (n : Int) (w : World) :
    Calls Tryz.prog 90 #[.int .i64 n] w fun e w' => e = .returned (.int .i64 (blockI n)) ∧ Keep [] w w' := by
  rcases class_lt n with hc | ⟨j, hc, hj⟩
  · rw [block_none n hc]
    by_cases h1 : n < 1
    · rw [pages_low n h1]
      go_enter Tryz.func90, Tryz.ntmps90
      go_wp2_with (go_at_call 91; refine (rclass_any _ _).mono ?_; rw [hc]; rintro e w1 ⟨rfl, hK⟩)
      go_ret
      exact ⟨rfl, hK⟩
    · by_cases h2 : 1024 < n
      · rw [pages_high n h2]
        go_enter Tryz.func90, Tryz.ntmps90
        go_wp2_with (go_at_call 91; refine (rclass_any _ _).mono ?_; rw [hc]; rintro e w1 ⟨rfl, hK⟩)
        go_ret
        exact ⟨rfl, hK⟩
      · have h3 : 33 ≤ n := by have := class_iff n; omega
        rw [pages_mid n h3 (by omega)]
        go_enter Tryz.func90, Tryz.ntmps90
        go_wp2_with (go_at_call 91; refine (rclass_any _ _).mono ?_; rw [hc]; rintro e w1 ⟨rfl, hK⟩)
        go_ret
        exact ⟨by go_num, hK⟩
  · rw [block_class n j hc]
    go_enter Tryz.func90, Tryz.ntmps90
    go_wp2_with (first | (go_at_call 91; refine (rclass_any _ _).mono ?_; rw [hc]; rintro e w1 ⟨rfl, hK⟩) | (go_at_call 77; refine (rsizes_any _).mono ?_; rintro e w2 ⟨g, rfl, hr, hK2, hg⟩; have hx := hr.cell (i := j) hj))
    go_ret
    exact ⟨rfl, hK.trans hK2⟩

theorem pages_block (n : Int) : blockI n / 64 = pagesI n := by
  rcases class_lt n with hc | ⟨j, hc, hj⟩
  · rw [block_none n hc]; omega
  · have h := (class_iff n).1 (by rw [hc]; omega)
    rw [block_class n j hc, pages_class n h.2]
    have := sizes_le j; omega

end Go.Proofs.YtgpidokklhjfdaaGreat

/-
  What each call of package block does, said of a Page in memory: its block, the Bits' block, the block of its places, the size of a block of it, its places.
-/
namespace Go.Proofs.YtgpidokklhjfdaaGreat
open Go.RowKit

/-- Block pb is a Page of blocks of s words whose Bits is block b, whose places xs lie in block g. -/
structure IsPage (w : World) (pb b g : Nat) (s : Int) (xs : List Bool) : Prop where
  ne1 : pb ≠ b
  ne2 : pb ≠ g
  head : w.heap[pb]? = some (.cells #[.pointer (some ⟨b, 0, none⟩), .int .i64 s] 162 (0, 0))
  bits : IsBits w b g xs

theorem IsPage.cell {w : World} {pb b g : Nat} {s : Int} {xs : List Bool} (h : IsPage w pb b g s xs) : w.cell? ⟨pb, 0, none⟩ = some (.pointer (some ⟨b, 0, none⟩)) := by simp [World.cell?, h.head]
theorem IsPage.cell1 {w : World} {pb b g : Nat} {s : Int} {xs : List Bool} (h : IsPage w pb b g s xs) : w.cell? ⟨pb, 1, none⟩ = some (.int .i64 s) := by simp [World.cell?, h.head]
theorem IsPage.keep {S : List Nat} {w w' : World} {pb b g : Nat} {s : Int} {xs : List Bool} (h : IsPage w pb b g s xs) (k : Keep S w w') (hp : pb ∉ S) (hb : b ∉ S) (hg : g ∉ S) : IsPage w' pb b g s xs :=
  ⟨h.ne1, h.ne2, k.blk h.head hp, h.bits.keep k hb hg⟩
theorem IsPage.other {w w' : World} {pb b g : Nat} {s : Int} {xs ys : List Bool} (h : IsPage w pb b g s xs) (k : Keep [g] w w') (r : IsBits w' b g ys) : IsPage w' pb b g s ys :=
  ⟨h.ne1, h.ne2, k.blk h.head (by simpa using h.ne2), r⟩
theorem IsPage.lt {w : World} {pb b g : Nat} {s : Int} {xs : List Bool} (h : IsPage w pb b g s xs) : pb < w.heap.size ∧ b < w.heap.size ∧ g < w.heap.size := ⟨lt_of_block h.head, h.bits.lt⟩
theorem IsPage.drew {w : World} {pb b g : Nat} {s : Int} {xs : List Bool} (h : IsPage w pb b g s xs) : IsPage w.drew pb b g s xs := h.keep (Keep.drew [] w) (by simp) (by simp) (by simp)

/-- What Take and Give leave, and what they answer; whether none, whether all are so. -/
def tkN (xs : List Bool) : Int := if nextR xs 0 false < 0 then 0 else nextR xs 0 false
def tkE (xs : List Bool) : Int := if nextR xs 0 false < 0 then 3 else 0
def tkR (xs : List Bool) : List Bool := if nextR xs 0 false < 0 then xs else xs.set (nextR xs 0 false).toNat true
def gvE (xs : List Bool) (i : Int) : Int := if hasR xs i = true then 0 else 2
def gvR (xs : List Bool) (i : Int) : List Bool := if hasR xs i = true then xs.set i.toNat false else xs
theorem tkR_length (xs : List Bool) : (tkR xs).length = xs.length := by
  unfold tkR; split
  · rfl
  · exact List.length_set ..
theorem gvR_length (xs : List Bool) (i : Int) : (gvR xs i).length = xs.length := by
  unfold gvR; split
  · exact List.length_set ..
  · rfl
theorem tk_no (xs : List Bool) (h : nextR xs 0 false = -1) : tkN xs = 0 ∧ tkE xs = 3 ∧ tkR xs = xs := by
  unfold tkN tkE tkR; rw [h]; exact ⟨rfl, rfl, rfl⟩
theorem tk_yes (xs : List Bool) (j : Nat) (h : nextR xs 0 false = j) : tkN xs = j ∧ tkE xs = 0 ∧ tkR xs = xs.set j true := by
  have hn : ¬ ((j : Int) < 0) := by omega
  unfold tkN tkE tkR; rw [h]
  exact ⟨if_neg hn, if_neg hn, by rw [if_neg hn, Int.toNat_natCast]⟩
theorem gv_no (xs : List Bool) (i : Int) (h : hasR xs i = false) : gvE xs i = 2 ∧ gvR xs i = xs := by
  unfold gvE gvR; rw [h]; exact ⟨rfl, rfl⟩
theorem gv_yes (xs : List Bool) (i : Nat) (h : hasR xs i = true) : gvE xs i = 0 ∧ gvR xs i = xs.set i false := by
  unfold gvE gvR; exact ⟨if_pos h, by rw [if_pos h, Int.toNat_natCast]⟩
theorem has_in (xs : List Bool) (i : Int) (h : hasR xs i = true) : 0 ≤ i ∧ i < xs.length := by
  unfold hasR at h
  rw [Bool.and_eq_true] at h
  have := h.1
  unfold isPl at this
  simpa using this
def noneB (xs : List Bool) : Bool := decide (nextR xs 0 true < 0)
def allB (xs : List Bool) : Bool := decide (nextR xs 0 false < 0)
theorem none_count (xs : List Bool) : noneB xs = decide ((cntA xs : Int) = 0) := by
  unfold noneB
  rcases nextR_spec xs true _ 0 rfl with ⟨h1, h2⟩ | ⟨j, h1, _, h2, h3, _⟩
  · rw [h1, cntA_none xs (fun t => by
      rcases Nat.lt_or_ge t xs.length with h | h
      · simpa using h2 t (by omega) h
      · rw [List.getElem?_eq_none h]; rfl)]
    rfl
  · have := cntA_pos xs j h2 h3
    rw [h1, decide_eq_false (by omega), decide_eq_false (by omega)]
theorem all_count (xs : List Bool) : allB xs = decide ((cntA xs : Int) = xs.length) := by
  have hq : cntA xs = xs.countP (fun x => x) := by unfold cntA cnt; rw [List.take_of_length_le (Nat.le_refl _)]
  have he := List.countP_eq_length (p := fun x : Bool => x) (l := xs)
  unfold allB
  rcases nextR_spec xs false _ 0 rfl with ⟨h1, h2⟩ | ⟨j, h1, _, h2, h3, _⟩
  · have : cntA xs = xs.length := by
      rw [hq, he]
      intro a ha
      obtain ⟨t, ht⟩ := List.mem_iff_getElem?.1 ha
      have hl : t < xs.length := by
        rcases Nat.lt_or_ge t xs.length with h | h
        · exact h
        · rw [List.getElem?_eq_none h] at ht; cases ht
      have := h2 t (by omega) hl
      rw [ht] at this
      simpa using this
    rw [h1, decide_eq_true (by omega), decide_eq_true (by omega)]
  · have : cntA xs ≠ xs.length := by
      rw [hq]
      intro e
      have := (he.1 e) (xs[j]) (List.getElem_mem ..)
      simp [h2, this] at h3
    rw [h1, decide_eq_false (by omega), decide_eq_false (by omega)]

set_option maxHeartbeats 400000 in
theorem kwords_any (pb b g : Nat) (s : Int) (xs : List Bool) (w : World) (hp : IsPage w pb b g s xs) :
    Calls Tryz.prog 100 #[.pointer (some ⟨pb, 0, none⟩)] w fun e w' => e = .returned (.int .i64 s) ∧ w = w' := by
  have hc := hp.cell1
  clear hp
  go_enter Tryz.func100, Tryz.ntmps100
  go_wp2
  go_ret
  exact ⟨rfl, rfl⟩
set_option maxHeartbeats 400000 in
theorem kfull_any (pb b g : Nat) (s : Int) (xs : List Bool) (w : World) (hp : IsPage w pb b g s xs) :
    Calls Tryz.prog 115 #[.pointer (some ⟨pb, 0, none⟩)] w fun e w' => e = .returned (.bool (allB xs)) ∧ w = w' := by
  have hc := hp.cell
  have hA := hp.bits
  clear hp
  go_enter Tryz.func115, Tryz.ntmps115
  go_wp2_with (go_at_call 38; refine (bnext_any _ _ 0 _ _ _ hA (by omega)).mono ?_; rintro e w' ⟨rfl, rfl⟩)
  go_ret
  exact ⟨rfl, rfl⟩

set_option maxHeartbeats 400000 in
theorem knew_no (n : Int) (w : World) (h : ¬ (0 ≤ n ∧ n < 5)) :
    Calls Tryz.prog 116 #[.int .i64 n] w fun e w' => e = .returned (.tuple #[.pointer none, .int .i64 1]) ∧ Keep [] w w' := by
  rcases (show n < 0 ∨ 0 ≤ n ∧ 5 ≤ n by omega) with h1 | ⟨h0, h1⟩
  all_goals
    go_enter Tryz.func116, Tryz.ntmps116
    go_wp2_with (go_at_call 104; refine (sizes_any _).mono ?_; rintro e w1 ⟨g, rfl, hr, hK, hg⟩)
    go_ret2
    exact ⟨rfl, hK⟩
/-- The blocks of a page of a class. -/
def wordsOf (c : Nat) : Int := sizesL[c]?.getD 0
def roomOf (c : Nat) : Nat := (64 / sizesL[c]?.getD 0).toNat
set_option maxHeartbeats 400000 in
theorem knew_ok (c : Nat) (w : World) (h : c < 5) :
    Calls Tryz.prog 116 #[.int .i64 c] w fun e w' => ∃ pb b g, e = .returned (.tuple #[.pointer (some ⟨pb, 0, none⟩), .int .i64 0]) ∧
      IsPage w' pb b g (wordsOf c) (offs (roomOf c)) ∧ Keep [] w w' ∧ w.heap.size ≤ pb ∧ w.heap.size ≤ b ∧ w.heap.size ≤ g := by
  obtain ⟨s, hs, m, hm, hq, hs0, hml⟩ : ∃ s : Nat, wordsOf c = s ∧ ∃ m : Nat, roomOf c = m ∧ (64 : Int) / s = m ∧ s ≠ 0 ∧ m ≤ 32 := by
    rcases (show c = 0 ∨ c = 1 ∨ c = 2 ∨ c = 3 ∨ c = 4 by omega) with rfl | rfl | rfl | rfl | rfl
    · exact ⟨2, rfl, 32, rfl, rfl, by omega, by omega⟩
    · exact ⟨4, rfl, 16, rfl, rfl, by omega, by omega⟩
    · exact ⟨8, rfl, 8, rfl, rfl, by omega, by omega⟩
    · exact ⟨16, rfl, 4, rfl, rfl, by omega, by omega⟩
    · exact ⟨32, rfl, 2, rfl, rfl, by omega, by omega⟩
  rw [hs, hm]
  have HS := (show Hid (sizesL[c]?.getD 0 = s) from hs)
  have hT : (64 : Int).tdiv s = m := by rw [Int.tdiv_eq_ediv_of_nonneg (by omega)]; exact hq
  have hd1 : decide ((c : Int) < 0) = false := by rw [decide_eq_false_iff_not]; omega
  have hd2 : decide (5 ≤ (c : Int)) = false := by rw [decide_eq_false_iff_not]; omega
  clear hs hm
  go_enter Tryz.func116, Tryz.ntmps116
  go_wp2_with (first | (go_at_call 104; refine (sizes_any _).mono ?_; rintro e w1 ⟨gs, rfl, hr, hK, hgs⟩; have hx := hr.cell (i := c) h; rw [HS.out] at hx) | (go_at_call 33; refine (bnew_ok m _ (by omega)).mono ?_; rintro e w2 ⟨b, g, rfl, hA, hK2, hb, hg⟩))
  have hsz := hK.size
  have hsz2 := hK2.size
  have hlt := hA.lt
  have hA1 := hA.keep (Keep.alloc [] w2 (.cells #[.pointer (some ⟨b, 0, none⟩), .int .i64 s] 162)) (by simp) (by simp)
  have hP1 := heap_alloc_new w2 (.cells #[.pointer (some ⟨b, 0, none⟩), .int .i64 s] 162)
  have hK3 := (hK.trans hK2).trans (Keep.alloc [] w2 (.cells #[.pointer (some ⟨b, 0, none⟩), .int .i64 s] 162))
  go_ret2
  exact ⟨_, b, g, rfl, ⟨by omega, by omega, hP1, hA1⟩, hK3, by omega, by omega, by omega⟩

set_option maxHeartbeats 400000 in
theorem ktake_nil (w : World) :
    Calls Tryz.prog 113 #[.pointer none] w fun e w' => e = .returned (.tuple #[.int .i64 0, .int .i64 2]) ∧ w = w' := by
  go_enter Tryz.func113, Tryz.ntmps113
  go_wp2
  go_ret2
  exact ⟨rfl, rfl⟩
set_option maxHeartbeats 400000 in
theorem kwords_nil (w : World) :
    Calls Tryz.prog 100 #[.pointer none] w fun e w' => e = .returned (.int .i64 0) ∧ w = w' := by
  go_enter Tryz.func100, Tryz.ntmps100
  go_wp2
  go_ret
  exact ⟨rfl, rfl⟩
set_option maxHeartbeats 400000 in
theorem kfull_nil (w : World) :
    Calls Tryz.prog 115 #[.pointer none] w fun e w' => e = .returned (.bool false) ∧ w = w' := by
  go_enter Tryz.func115, Tryz.ntmps115
  go_wp2
  go_ret
  exact ⟨rfl, rfl⟩

set_option maxHeartbeats 400000 in
theorem ktake_no (pb b g : Nat) (s : Int) (xs : List Bool) (w : World) (hp : IsPage w pb b g s xs) (h : nextR xs 0 false = -1) :
    Calls Tryz.prog 113 #[.pointer (some ⟨pb, 0, none⟩)] w fun e w' => e = .returned (.tuple #[.int .i64 0, .int .i64 3]) ∧ w = w' := by
  have hc := hp.cell
  have hA := hp.bits
  have HR := (show Hid (nextR xs (0 : Int).toNat false = -1) from h)
  clear hp h
  go_enter Tryz.func113, Tryz.ntmps113
  go_wp2_with (go_at_call 38; refine (bnext_any _ _ 0 _ _ _ hA (by omega)).mono ?_; rw [HR.out]; rintro e w' ⟨rfl, rfl⟩)
  go_ret2
  exact ⟨rfl, rfl⟩
set_option maxHeartbeats 800000 in
theorem ktake_yes (pb b g j : Nat) (s : Int) (xs : List Bool) (w : World) (hp : IsPage w pb b g s xs) (h : nextR xs 0 false = j) (hl : j < xs.length) :
    Calls Tryz.prog 113 #[.pointer (some ⟨pb, 0, none⟩)] w fun e w' => e = .returned (.tuple #[.int .i64 j, .int .i64 0]) ∧ IsPage w' pb b g s (xs.set j true) ∧ Keep [g] w w' := by
  have hc := hp.cell
  have hA := hp.bits
  have HR := (show Hid (nextR xs (0 : Int).toNat false = j) from h)
  have hpd : decide ((j : Int) < 0) = false := by rw [decide_eq_false_iff_not]; omega
  have hlt := hp.lt
  clear h
  go_enter Tryz.func113, Tryz.ntmps113
  go_wp2_with (first | (go_at_call 38; refine (bnext_any _ _ 0 _ _ _ hA (by omega)).mono ?_; rw [HR.out]; rintro e w' ⟨rfl, rfl⟩) | (go_at_call 36; refine (bset_one b g j true xs _ hA hl).mono ?_; rintro e w3 ⟨rfl, hA3, hK3⟩; have hp3 := hp.other hK3 hA3))
  go_ret2
  exact ⟨rfl, hp3, hK3⟩
theorem ktake_any (pb b g : Nat) (s : Int) (xs : List Bool) (w : World) (hp : IsPage w pb b g s xs) :
    Calls Tryz.prog 113 #[.pointer (some ⟨pb, 0, none⟩)] w fun e w' => e = .returned (.tuple #[.int .i64 (tkN xs), .int .i64 (tkE xs)]) ∧ IsPage w' pb b g s (tkR xs) ∧ Keep [g] w w' := by
  rcases nextR_spec xs false _ 0 rfl with ⟨h1, _⟩ | ⟨j, h1, _, h2, _⟩
  · obtain ⟨e1, e2, e3⟩ := tk_no xs h1
    rw [e1, e2, e3]
    refine (ktake_no pb b g s xs w hp h1).mono ?_
    rintro e w' ⟨rfl, rfl⟩
    exact ⟨rfl, hp, Keep.refl _ _⟩
  · obtain ⟨e1, e2, e3⟩ := tk_yes xs j h1
    rw [e1, e2, e3]
    exact ktake_yes pb b g j s xs w hp h1 h2

end Go.Proofs.YtgpidokklhjfdaaGreat

/-
  What each call of package pages does, said of Pages in memory: its block, the Bits' block, the block of its places, its places.
-/
namespace Go.Proofs.YtgpidokklhjfdaaGreat
open Go.RowKit

theorem Tryz.infoIntP : (Tryz.prog.info? 3).map (fun i => (i.zero, i.size, i.bytes)) = some (some (.int .i64 0), 1, 8) := by kernel_rfl

/-- Block pb is Pages whose Bits is block b, whose places xs lie in block g. -/
structure IsPages (w : World) (pb b g : Nat) (xs : List Bool) : Prop where
  ne1 : pb ≠ b
  ne2 : pb ≠ g
  head : w.heap[pb]? = some (.cells #[.pointer (some ⟨b, 0, none⟩)] 166 (0, 0))
  bits : IsBits w b g xs

theorem IsPages.cell {w : World} {pb b g : Nat} {xs : List Bool} (h : IsPages w pb b g xs) : w.cell? ⟨pb, 0, none⟩ = some (.pointer (some ⟨b, 0, none⟩)) := cell_of_one h.head
theorem IsPages.keep {S : List Nat} {w w' : World} {pb b g : Nat} {xs : List Bool} (h : IsPages w pb b g xs) (k : Keep S w w') (hp : pb ∉ S) (hb : b ∉ S) (hg : g ∉ S) : IsPages w' pb b g xs :=
  ⟨h.ne1, h.ne2, k.blk h.head hp, h.bits.keep k hb hg⟩
theorem IsPages.other {w w' : World} {pb b g : Nat} {xs ys : List Bool} (h : IsPages w pb b g xs) (k : Keep [g] w w') (r : IsBits w' b g ys) : IsPages w' pb b g ys :=
  ⟨h.ne1, h.ne2, k.blk h.head (by simpa using h.ne2), r⟩
theorem IsPages.lt {w : World} {pb b g : Nat} {xs : List Bool} (h : IsPages w pb b g xs) : pb < w.heap.size ∧ b < w.heap.size ∧ g < w.heap.size := ⟨lt_of_block h.head, h.bits.lt⟩
theorem IsPages.drew {w : World} {pb b g : Nat} {xs : List Bool} (h : IsPages w pb b g xs) : IsPages w.drew pb b g xs := h.keep (Keep.drew [] w) (by simp) (by simp) (by simp)

theorem bset_yes' (b g c ln : Nat) (v : Bool) (xs : List Bool) (ao : Option Addr) (L : List Int) (w : World) (hln : L.length = ln) (ha : IsBits w b g xs) (hL : IntsAt w ao L) (ho : 0 < L.length → Off ao [g]) (hl : ln ≤ 9223372036854775807) (hf : fitsB xs.length L = true) :
    Calls Tryz.prog 36 #[.pointer (some ⟨b, 0, none⟩), .bool v, .slice ao ln c] w fun e w' => e = .returned (.int .i64 0) ∧ IsBits w' b g (setAll xs v L) ∧ Keep [g] w w' := by
  subst hln; exact bset_yes b g c v xs ao L w ha hL ho hl hf

set_option maxHeartbeats 400000 in
theorem pnew_no (n : Int) (w : World) (h : ¬ (1 ≤ n ∧ n ≤ 256)) :
    Calls Tryz.prog 79 #[.int .i64 n] w fun e w' => e = .returned (.tuple #[.pointer none, .int .i64 1]) ∧ w = w' := by
  by_cases h1 : n < 1
  · go_enter Tryz.func79, Tryz.ntmps79
    go_wp2
    go_ret2
    exact ⟨rfl, rfl⟩
  · have h2 : 256 < n := by omega
    go_enter Tryz.func79, Tryz.ntmps79
    go_wp2
    go_ret2
    exact ⟨rfl, rfl⟩
/-- What New makes: the first page is taken. -/
def fresh (n : Nat) : List Bool := (offs n).set 0 true
theorem fresh_length (n : Nat) : (fresh n).length = n := by simp [fresh, offs_length]
theorem fresh_get (n t : Nat) (h : 1 ≤ n) : (fresh n)[t]?.getD false = decide (t = 0) := by
  unfold fresh
  by_cases e : t = 0
  · subst e; rw [bset_same _ _ _ (by rw [offs_length]; omega)]; rfl
  · rw [bset_other _ _ _ _ (fun x => e x.symm), offs_get]; simp [e]
theorem fresh_run (n k : Nat) (h1 : 1 ≤ k) (h : k < n) : runR (fresh n) 0 k = 1 := by
  refine runR_is (fresh n) 0 k 1 h1 (by omega) ⟨by rw [fresh_length]; omega, fun t a b => ?_⟩ (fun s a b c => ?_)
  · rw [fresh_get n t (by omega)]; simp; omega
  · have := c.2 s (by omega) (by omega)
    rw [fresh_get n s (by omega)] at this; simp at this; omega
set_option maxHeartbeats 400000 in
theorem pnew_ok (n : Nat) (w : World) (h1 : 1 ≤ n) (h2 : n ≤ 256) :
    Calls Tryz.prog 79 #[.int .i64 n] w fun e w' => ∃ pb b g, e = .returned (.tuple #[.pointer (some ⟨pb, 0, none⟩), .int .i64 0]) ∧
      IsPages w' pb b g (fresh n) ∧ Keep [] w w' ∧ w.heap.size ≤ pb ∧ w.heap.size ≤ b ∧ w.heap.size ≤ g := by
  have hd1 : decide ((n : Int) < 1) = false := by rw [decide_eq_false_iff_not]; omega
  have hd2 : decide (256 < (n : Int)) = false := by rw [decide_eq_false_iff_not]; omega
  go_enter Tryz.func79, Tryz.ntmps79
  go_wp2_with (go_at_call 33; refine (bnew_ok _ _ (by omega)).mono ?_; rintro e w1 ⟨b, g, rfl, hA, hK, hb, hg⟩)
  have hA1 := hA.keep (Keep.alloc [] w1 (.cells #[.pointer (some ⟨b, 0, none⟩)] 166)) (by simp) (by simp)
  have hK1 : Keep [] w (w1.alloc (.cells #[.pointer (some ⟨b, 0, none⟩)] 166)) := hK.trans (Keep.alloc [] _ _)
  have hP1 := heap_alloc_new w1 (.cells #[.pointer (some ⟨b, 0, none⟩)] 166)
  have hz : (w1.alloc (.cells #[.pointer (some ⟨b, 0, none⟩)] 166)).heap.size = w1.heap.size + 1 := by simp
  have hlt := hA.lt
  have hsz := hK.size
  clear hA hK
  generalize w1.alloc (.cells #[.pointer (some ⟨b, 0, none⟩)] 166) = w2 at *
  refine (bset_one' b g 0 _ true _ w2 hz hA1 (by rw [offs_length]; omega)).mono ?_
  rintro e w3 ⟨rfl, hA3, hK3⟩
  have hP3 := hK3.blk hP1 (by simp; omega)
  have hK4 : Keep [] w w3 := (hK1.mono (T := [g]) (by simp)).trans hK3 |>.drop (by simp; omega)
  have HP : Hid (IsPages w3 w1.heap.size b g (fresh n)) := ⟨by omega, by omega, hP3, hA3⟩
  clear hP3 hA3 hP1 hA1
  go_wp2
  go_ret2
  exact ⟨_, b, g, rfl, HP.out, hK4, hsz, hb, hg⟩

set_option maxHeartbeats 800000 in
/-- The list of k places from a on: a new one. -/
theorem prow_any (a k : Nat) (w : World) (h1 : a ≤ 16384) (h2 : k ≤ 16384) :
    Calls Tryz.prog 118 #[.int .i64 a, .int .i64 k] w fun e w' => ∃ z, e = .returned (.slice (some ⟨z, 0, none⟩) k k) ∧ IntsAt w' (some ⟨z, 0, none⟩) (rowL a k) ∧ Keep [] w w' ∧ w.heap.size ≤ z := by
  have hmk : ∀ w, (Instr.makeSlice 25 (.int .i64 (k : Int)) (.int .i64 (k : Int))).run Tryz.prog w = .ok (.slice (some ⟨w.heap.size, 0, none⟩) k k) (w.alloc (.cells (madeCells #[.int .i64 0] k) 3)) :=
    fun w => run_make_row' (P := Tryz.prog) 25 3 (.int .i64 0) 8 Tryz.underlying25 Tryz.infoIntP rfl .i64 .i64 k (by omega) (by omega) w
  go_enter Tryz.func118, Tryz.ntmps118
  go_wp2
  have hR := Row.made w 3 k
  have hK := Keep.alloc [] w (.cells (madeCells #[.int .i64 0] k) 3)
  have hz : w.heap.size < (w.alloc (.cells (madeCells #[.int .i64 0] k) 3)).heap.size := by simp
  clear hmk
  generalize w.alloc (.cells (madeCells #[.int .i64 0] k) 3) = w1 at *
  obtain ⟨z, hzz⟩ : ∃ z, w.heap.size = z := ⟨_, rfl⟩
  rw [hzz] at hR hz ⊢
  go_loopw [11] (fun i wr => ∃ (j : Nat) (L : List Int), i = .int .i64 j ∧ j ≤ k ∧ Hid (L.length = k) ∧ Hid (∀ t, t < j → L[t]?.getD 0 = ((a + t : Nat) : Int)) ∧ Row wr 3 z L ∧ Keep [z] w wr) (fun i _ => k - (intOf i).toNat)
  case atStart => exact ⟨0, _, rfl, by omega, zeros_length k, fun t h => by omega, hR, hK.mono (by simp)⟩
  case round =>
    obtain ⟨j, L, rfl, hj, HL, HJ, hR2, hK2⟩ := hrel
    clear hR hK
    by_cases hlt : j < k
    · have y1 := hR2.cell (i := j) (by rw [HL.out]; exact hlt)
      have y2 := hR2.free j
      have HR := (show Hid (Row (wr.setCell ⟨z, j, none⟩ (.int .i64 ((a : Int) + j))) 3 z (L.set j ((a : Int) + j))) from hR2.put j _)
      have hK3 : Keep [z] w (wr.setCell ⟨z, j, none⟩ (.int .i64 ((a : Int) + j))) := hK2.trans (Keep.setCell _ _ (by simp))
      clear hR2 hK2
      go_wp2
      go_roundw
      case rel =>
        refine ⟨j + 1, L.set j ((a : Int) + j), by go_num, by omega, by show _ = _; rw [List.length_set]; exact HL.out, fun t ht => ?_, HR.out, hK3⟩
        by_cases e : t = j
        · subst e; rw [set_get_same _ _ _ (by rw [HL.out]; exact hlt)]; omega
        · rw [set_get_other _ _ _ _ (fun e' => e e'.symm)]; exact HJ.out t (by omega)
      case measure => simp [intOf]; omega
    · obtain rfl : j = k := by omega
      have hLe : L = rowL a j := eq_of_getD (by rw [HL.out, rowL_length]) (fun t => by
        by_cases ht : t < j
        · rw [HJ.out t ht, rowL_get a j t ht]
        · rw [List.getElem?_eq_none (by rw [HL.out]; omega), List.getElem?_eq_none (by rw [rowL_length]; omega)])
      rw [hLe] at hR2
      have HR := (show Hid (Row wr 3 z (rowL a j)) from hR2)
      clear hR2 hLe
      go_wp2
      go_ret
      refine ⟨z, rfl, ⟨fun _ => ⟨z, 0, rfl, HR.out.lt, fun i hi => ?_⟩, fun i => ?_, fun i => ?_⟩, hK2.drop (by simp; omega), by omega⟩
      · rw [Nat.zero_add]; exact HR.out.cell hi
      · by_cases hi : i < j
        · rw [rowL_get a j i hi]; omega
        · rw [List.getElem?_eq_none (by rw [rowL_length]; omega)]; simp
      · by_cases hi : i < j
        · rw [rowL_get a j i hi]; omega
        · rw [List.getElem?_eq_none (by rw [rowL_length]; omega)]; simp

end Go.Proofs.YtgpidokklhjfdaaGreat

/-
  A space as plain mathematics: what each page is, what is found at a word, what Alloc and Free leave. No memory.
-/
namespace Go.Proofs.YtgpidokklhjfdaaGreat
open Go.RowKit

/-- What a page is: page 0, not taken, of a class, or the j-th one of k of a larger block. -/
inductive PK where
  | zero
  | free
  | small (c : Nat) (xs : List Bool)
  | part (j k : Nat)

def PK.taken : PK → Bool
  | .free => false
  | _ => true
def PK.big : PK → Int
  | .part 0 k => k
  | _ => 0
/-- A page of class c that has a block left. -/
def PK.has (c : Nat) : PK → Bool
  | .small d xs => decide (d = c) && !allB xs
  | _ => false
/-- Page p. -/
def kat (kd : List PK) (p : Nat) : PK := kd[p]?.getD .free
theorem kat_out (kd : List PK) (p : Nat) (h : kd.length ≤ p) : kat kd p = .free := by unfold kat; rw [List.getElem?_eq_none h]; rfl
theorem kat_lt (kd : List PK) (p : Nat) (h : kat kd p ≠ .free) : p < kd.length := by
  rcases Nat.lt_or_ge p kd.length with h1 | h1
  · exact h1
  · exact absurd (kat_out kd p h1) h
theorem kat_get (kd : List PK) (p : Nat) (h : p < kd.length) : kd[p]? = some (kat kd p) := by unfold kat; simp [h]
theorem kat_set (kd : List PK) (p q : Nat) (x : PK) (h : p < kd.length) : kat (kd.set p x) q = if q = p then x else kat kd q := by
  unfold kat
  by_cases e : q = p
  · subst e; simp [h]
  · rw [if_neg e, List.getElem?_set_ne (fun e' => e e'.symm)]
theorem kat_set_same (kd : List PK) (p : Nat) (x : PK) (h : p < kd.length) : kat (kd.set p x) p = x := by rw [kat_set kd p p x h, if_pos rfl]
theorem kat_set_other (kd : List PK) (p q : Nat) (x : PK) (h : q ≠ p) : kat (kd.set p x) q = kat kd q := by
  unfold kat; rw [List.getElem?_set_ne (fun e' => h e'.symm)]
theorem kat_ext {kd kd' : List PK} (hl : kd.length = kd'.length) (h : ∀ p, kat kd p = kat kd' p) : kd = kd' := by
  apply List.ext_getElem hl
  intro i h1 h2
  have := h i
  simpa [kat, h1, h2] using this

/-- Of each page: is it taken, how many pages begin there, has it a block of class c left? -/
def takenL (kd : List PK) : List Bool := kd.map PK.taken
def bigL (kd : List PK) : List Int := kd.map PK.big
def hasL (c : Nat) (kd : List PK) : List Bool := kd.map (PK.has c)
theorem takenL_length (kd : List PK) : (takenL kd).length = kd.length := by simp [takenL]
theorem bigL_length (kd : List PK) : (bigL kd).length = kd.length := by simp [bigL]
theorem hasL_length (c : Nat) (kd : List PK) : (hasL c kd).length = kd.length := by simp [hasL]
theorem takenL_get (kd : List PK) (p : Nat) : (takenL kd)[p]?.getD false = (kat kd p).taken := by
  unfold takenL kat
  rcases Nat.lt_or_ge p kd.length with h | h
  · simp [h]
  · rw [List.getElem?_eq_none (by simpa using h), List.getElem?_eq_none h]; rfl
theorem bigL_get (kd : List PK) (p : Nat) : (bigL kd)[p]?.getD 0 = (kat kd p).big := by
  unfold bigL kat
  rcases Nat.lt_or_ge p kd.length with h | h
  · simp [h]
  · rw [List.getElem?_eq_none (by simpa using h), List.getElem?_eq_none h]; rfl
theorem hasL_get (c : Nat) (kd : List PK) (p : Nat) : (hasL c kd)[p]?.getD false = (kat kd p).has c := by
  unfold hasL kat
  rcases Nat.lt_or_ge p kd.length with h | h
  · simp [h]
  · rw [List.getElem?_eq_none (by simpa using h), List.getElem?_eq_none h]; rfl
theorem taken_set (kd : List PK) (p : Nat) (x : PK) : takenL (kd.set p x) = (takenL kd).set p x.taken := by simp [takenL, List.map_set]
theorem big_set (kd : List PK) (p : Nat) (x : PK) : bigL (kd.set p x) = (bigL kd).set p x.big := by simp [bigL, List.map_set]

/-- How many words the blocks of a class have. -/
def sz (c : Nat) : Nat := 2 ^ (c + 1)
theorem sz_facts (c : Nat) (h : c < 5) : wordsOf c = sz c ∧ sz c * roomOf c = 64 ∧ 2 ≤ sz c ∧ sz c ≤ 32 ∧ 2 ≤ roomOf c ∧ roomOf c ≤ 32 ∧ 64 / sz c = roomOf c := by
  rcases (show c = 0 ∨ c = 1 ∨ c = 2 ∨ c = 3 ∨ c = 4 by omega) with rfl | rfl | rfl | rfl | rfl <;> decide
theorem sz_cases (c : Nat) (h : c < 5) : sz c = 2 ∧ roomOf c = 32 ∨ sz c = 4 ∧ roomOf c = 16 ∨ sz c = 8 ∧ roomOf c = 8 ∨ sz c = 16 ∧ roomOf c = 4 ∨ sz c = 32 ∧ roomOf c = 2 := by
  rcases (show c = 0 ∨ c = 1 ∨ c = 2 ∨ c = 3 ∨ c = 4 by omega) with rfl | rfl | rfl | rfl | rfl <;> decide
theorem sz_inj (c d : Nat) (hc : c < 5) (hd : d < 5) (h : sz c = sz d) : c = d := by
  rcases (show c = 0 ∨ c = 1 ∨ c = 2 ∨ c = 3 ∨ c = 4 by omega) with rfl | rfl | rfl | rfl | rfl <;>
  rcases (show d = 0 ∨ d = 1 ∨ d = 2 ∨ d = 3 ∨ d = 4 by omega) with rfl | rfl | rfl | rfl | rfl <;> first | rfl | (exfalso; revert h; decide)
/-- A word of a page, and the block of its class in which it lies. -/
theorem sz_word (c a : Nat) (h : c < 5) : a - a % sz c = 64 * (a / 64) + a % 64 / sz c * sz c ∧ a % 64 / sz c < roomOf c ∧ a % sz c < sz c ∧ a % sz c ≤ a := by
  rcases sz_cases c h with ⟨e, f⟩ | ⟨e, f⟩ | ⟨e, f⟩ | ⟨e, f⟩ | ⟨e, f⟩ <;> rw [e, f] <;> omega

/-- What pages may be beside one another. -/
structure WF (kd : List PK) : Prop where
  len1 : 1 ≤ kd.length
  len2 : kd.length ≤ 256
  zero : kat kd 0 = .zero
  only : ∀ p, kat kd p = .zero → p = 0
  small : ∀ p c xs, kat kd p = .small c xs → c < 5 ∧ xs.length = roomOf c ∧ ∃ i : Nat, xs[i]?.getD false = true
  part : ∀ p j k, kat kd p = .part j k → j < k ∧ k ≤ 16 ∧ j ≤ p ∧ ∀ i, i < k → kat kd (p - j + i) = .part i k

/-- The block in which word a lies: where it begins, how many words it has. -/
def findN (kd : List PK) (a : Nat) : Option (Nat × Nat) :=
  match kat kd (a / 64) with
  | .small c xs => if xs[a % 64 / sz c]?.getD false = true then some (a - a % sz c, sz c) else none
  | .part j k => some (64 * (a / 64 - j), 64 * k)
  | _ => none
theorem find_small (kd : List PK) (a c : Nat) (xs : List Bool) (h : kat kd (a / 64) = .small c xs) : findN kd a = if xs[a % 64 / sz c]?.getD false = true then some (a - a % sz c, sz c) else none := by
  unfold findN; rw [h]
theorem find_part (kd : List PK) (a j k : Nat) (h : kat kd (a / 64) = .part j k) : findN kd a = some (64 * (a / 64 - j), 64 * k) := by unfold findN; rw [h]
theorem find_free (kd : List PK) (a : Nat) (h : kat kd (a / 64) = .free) : findN kd a = none := by unfold findN; rw [h]
theorem find_zero (kd : List PK) (a : Nat) (h : kat kd (a / 64) = .zero) : findN kd a = none := by unfold findN; rw [h]
theorem find_out (kd : List PK) (a : Nat) (h : 64 * kd.length ≤ a) : findN kd a = none := find_free kd a (kat_out kd _ (by omega))
/-- What is found at any integer. -/
def findI (kd : List PK) (a : Int) : Option (Nat × Nat) := if a < 0 then none else findN kd a.toNat

/-- k pages from p on are a larger block; are not taken. -/
def putParts (kd : List PK) (p k : Nat) : List PK := kd.mapIdx (fun i x => if p ≤ i ∧ i < p + k then .part (i - p) k else x)
def freeParts (kd : List PK) (p k : Nat) : List PK := kd.mapIdx (fun i x => if p ≤ i ∧ i < p + k then .free else x)
theorem putParts_length (kd : List PK) (p k : Nat) : (putParts kd p k).length = kd.length := by simp [putParts]
theorem freeParts_length (kd : List PK) (p k : Nat) : (freeParts kd p k).length = kd.length := by simp [freeParts]
theorem putParts_at (kd : List PK) (p k q : Nat) (h : p + k ≤ kd.length) : kat (putParts kd p k) q = if p ≤ q ∧ q < p + k then .part (q - p) k else kat kd q := by
  unfold putParts kat
  rw [List.getElem?_mapIdx]
  rcases Nat.lt_or_ge q kd.length with hq | hq
  · simp [hq]
  · rw [List.getElem?_eq_none hq, if_neg (by omega)]; rfl
theorem freeParts_at (kd : List PK) (p k q : Nat) : kat (freeParts kd p k) q = if p ≤ q ∧ q < p + k then .free else kat kd q := by
  unfold freeParts kat
  rw [List.getElem?_mapIdx]
  rcases Nat.lt_or_ge q kd.length with hq | hq
  · simp [hq]
  · rw [List.getElem?_eq_none hq]; simp
theorem taken_put (kd : List PK) (p k : Nat) (h : p + k ≤ kd.length) : takenL (putParts kd p k) = putR (takenL kd) p k true := by
  refine beq_of_getD (by rw [putR_length, takenL_length, takenL_length, putParts_length]) (fun t => ?_)
  rw [putR_get _ _ _ _ (by rw [takenL_length]; exact h), takenL_get, takenL_get, putParts_at _ _ _ _ h]
  split <;> rfl
theorem taken_free (kd : List PK) (p k : Nat) (h : p + k ≤ kd.length) : takenL (freeParts kd p k) = putR (takenL kd) p k false := by
  refine beq_of_getD (by rw [putR_length, takenL_length, takenL_length, freeParts_length]) (fun t => ?_)
  rw [putR_get _ _ _ _ (by rw [takenL_length]; exact h), takenL_get, takenL_get, freeParts_at]
  split <;> rfl
theorem clear_free {kd : List PK} {p k : Nat} (h : Clear (takenL kd) p k) : p + k ≤ kd.length ∧ ∀ q, p ≤ q → q < p + k → kat kd q = .free := by
  have h1 := h.1
  rw [takenL_length] at h1
  refine ⟨h1, fun q a b => ?_⟩
  have := h.2 q a b
  rw [takenL_get] at this
  cases e : kat kd q <;> rw [e] at this <;> first | rfl | cases this
theorem big_put (kd : List PK) (p k : Nat) (hk : 1 ≤ k) (h : Clear (takenL kd) p k) : bigL (putParts kd p k) = (bigL kd).set p k := by
  obtain ⟨hl, hf⟩ := clear_free h
  refine eq_of_getD (by simp [bigL, putParts]) (fun t => ?_)
  rw [bigL_get, putParts_at _ _ _ _ hl]
  by_cases e : t = p
  · subst e; rw [if_pos (by omega), set_get_same _ _ _ (by rw [bigL_length]; omega), Nat.sub_self]; rfl
  · rw [set_get_other _ _ _ _ (fun e' => e e'.symm), bigL_get]
    by_cases e2 : p ≤ t ∧ t < p + k
    · rw [if_pos e2, hf t e2.1 e2.2]
      obtain ⟨m, hm⟩ : ∃ m, t - p = m + 1 := ⟨t - p - 1, by omega⟩
      rw [hm]; rfl
    · rw [if_neg e2]
theorem big_free (kd : List PK) (p k : Nat) (hk : 1 ≤ k) (h : ∀ i, i < k → kat kd (p + i) = .part i k) : bigL (freeParts kd p k) = (bigL kd).set p 0 := by
  have hl : p < kd.length := kat_lt kd p (by have := h 0 (by omega); rw [Nat.add_zero] at this; rw [this]; simp)
  refine eq_of_getD (by simp [bigL, freeParts]) (fun t => ?_)
  rw [bigL_get, freeParts_at]
  by_cases e : t = p
  · subst e; rw [if_pos (by omega), set_get_same _ _ _ (by rw [bigL_length]; omega)]; rfl
  · rw [set_get_other _ _ _ _ (fun e' => e e'.symm), bigL_get]
    by_cases e2 : p ≤ t ∧ t < p + k
    · rw [if_pos e2]
      have := h (t - p) (by omega)
      rw [show p + (t - p) = t by omega] at this
      obtain ⟨m, hm⟩ : ∃ m, t - p = m + 1 := ⟨t - p - 1, by omega⟩
      rw [this, hm]; rfl
    · rw [if_neg e2]

/-- What Alloc of n answers and leaves, where n may be. -/
inductive AllocR (kd : List PK) (n : Int) : Option (Nat × List PK) → Prop
  | old (c p i : Nat) (xs : List Bool) : classI n = c → nextR (hasL c kd) 0 true = p → kat kd p = .small c xs → nextR xs 0 false = i → i < xs.length → AllocR kd n (some (64 * p + i * sz c, kd.set p (.small c (xs.set i true))))
  | new (c p : Nat) : classI n = c → nextR (hasL c kd) 0 true = -1 → runR (takenL kd) 0 1 = p → AllocR kd n (some (64 * p, kd.set p (.small c ((offs (roomOf c)).set 0 true))))
  | full (c : Nat) : classI n = c → nextR (hasL c kd) 0 true = -1 → runR (takenL kd) 0 1 = -1 → AllocR kd n none
  | large (k p : Nat) : classI n = -1 → pagesI n = k → 1 ≤ k → runR (takenL kd) 0 k = p → AllocR kd n (some (64 * p, putParts kd p k))
  | over (k : Nat) : classI n = -1 → pagesI n = k → 1 ≤ k → runR (takenL kd) 0 k = -1 → AllocR kd n none
theorem has_small (c : Nat) (x : PK) (h : x.has c = true) : ∃ (xs : List Bool) (i : Nat), x = .small c xs ∧ nextR xs 0 false = i ∧ i < xs.length := by
  cases x with
  | small d xs =>
    simp only [PK.has, Bool.and_eq_true, decide_eq_true_eq, Bool.not_eq_true'] at h
    obtain ⟨rfl, h2⟩ := h
    unfold allB at h2
    rcases nextR_spec xs false _ 0 rfl with ⟨h1, _⟩ | ⟨j, h1, _, h3, _⟩
    · rw [h1] at h2; simp at h2
    · exact ⟨xs, j, rfl, h1, h3⟩
  | _ => cases h
theorem alloc_ex (kd : List PK) (n : Int) (h : blockI n ≠ 0) : ∃ r, AllocR kd n r := by
  rcases class_lt n with hc | ⟨c, hc, _⟩
  · have hk := block_none n hc
    obtain ⟨k, hk2⟩ := Int.eq_ofNat_of_zero_le (pages_le n).1
    have hk1 : 1 ≤ k := by rw [hk2] at hk; omega
    rcases runR_spec (takenL kd) k hk1 _ 0 rfl with ⟨hr, _⟩ | ⟨p, hr, _⟩
    · exact ⟨_, .over k hc hk2 hk1 hr⟩
    · exact ⟨_, .large k p hc hk2 hk1 hr⟩
  · rcases nextR_spec (hasL c kd) true _ 0 rfl with ⟨hn, _⟩ | ⟨p, hn, _, hl, hv, _⟩
    · rcases runR_spec (takenL kd) 1 (by omega) _ 0 rfl with ⟨hr, _⟩ | ⟨p, hr, _⟩
      · exact ⟨_, .full c hc hn hr⟩
      · exact ⟨_, .new c p hc hn hr⟩
    · rw [hasL_get] at hv
      obtain ⟨xs, i, e1, e2, e3⟩ := has_small c _ hv
      exact ⟨_, .old c p i xs hc hn e1 e2 e3⟩
/-- What Free of a leaves, where a block begins there. -/
inductive FreeR (kd : List PK) (a : Nat) : List PK → Prop
  | one (c : Nat) (xs : List Bool) : kat kd (a / 64) = .small c xs → xs[a % 64 / sz c]?.getD false = true → a % sz c = 0 → noneB (xs.set (a % 64 / sz c) false) = false → FreeR kd a (kd.set (a / 64) (.small c (xs.set (a % 64 / sz c) false)))
  | last (c : Nat) (xs : List Bool) : kat kd (a / 64) = .small c xs → xs[a % 64 / sz c]?.getD false = true → a % sz c = 0 → noneB (xs.set (a % 64 / sz c) false) = true → FreeR kd a (kd.set (a / 64) .free)
  | large (k : Nat) : kat kd (a / 64) = .part 0 k → a % 64 = 0 → FreeR kd a (freeParts kd (a / 64) k)

theorem WF.part0 {kd : List PK} (h : WF kd) {p j k : Nat} (e : kat kd p = .part j k) : 1 ≤ p - j ∧ p - j + k ≤ kd.length ∧ p < kd.length := by
  obtain ⟨h1, h2, h3, h4⟩ := h.part p j k e
  refine ⟨?_, ?_, kat_lt kd p (by rw [e]; simp)⟩
  · rcases Nat.eq_zero_or_pos (p - j) with e0 | e0
    · have := h4 0 (by omega)
      rw [e0, h.zero] at this; cases this
    · exact e0
  · have := kat_lt kd (p - j + (k - 1)) (by rw [h4 (k - 1) (by omega)]; simp)
    omega
/-- What is found: it holds the word, lies behind page 0, and each of its words finds it. -/
theorem WF.found {kd : List PK} (h : WF kd) {a s n : Nat} (e : findN kd a = some (s, n)) : s ≤ a ∧ a < s + n ∧ 64 ≤ s ∧ s + n ≤ 64 * kd.length ∧ n ≤ 1024 ∧ ∀ x, s ≤ x → x < s + n → findN kd x = some (s, n) := by
  cases hk : kat kd (a / 64) with
  | zero => rw [find_zero kd a hk] at e; cases e
  | free => rw [find_free kd a hk] at e; cases e
  | small c xs =>
    obtain ⟨hc, hl, _⟩ := h.small _ c xs hk
    have hp := kat_lt kd (a / 64) (by rw [hk]; simp)
    have hp0 : a / 64 ≠ 0 := by intro e0; rw [e0, h.zero] at hk; cases hk
    rw [find_small kd a c xs hk] at e
    split at e
    · rename_i hx
      cases e
      refine ⟨?_, ?_, ?_, ?_, ?_, fun x h1 h2 => ?_⟩
      · omega
      · rcases sz_cases c hc with ⟨e, f⟩ | ⟨e, f⟩ | ⟨e, f⟩ | ⟨e, f⟩ | ⟨e, f⟩ <;> rw [e] <;> omega
      · rcases sz_cases c hc with ⟨e, f⟩ | ⟨e, f⟩ | ⟨e, f⟩ | ⟨e, f⟩ | ⟨e, f⟩ <;> rw [e] <;> omega
      · rcases sz_cases c hc with ⟨e, f⟩ | ⟨e, f⟩ | ⟨e, f⟩ | ⟨e, f⟩ | ⟨e, f⟩ <;> rw [e] <;> omega
      · rcases sz_cases c hc with ⟨e, f⟩ | ⟨e, f⟩ | ⟨e, f⟩ | ⟨e, f⟩ | ⟨e, f⟩ <;> rw [e] <;> omega
      · have e1 : x / 64 = a / 64 ∧ x % 64 / sz c = a % 64 / sz c ∧ x - x % sz c = a - a % sz c := by
          rcases sz_cases c hc with ⟨e, f⟩ | ⟨e, f⟩ | ⟨e, f⟩ | ⟨e, f⟩ | ⟨e, f⟩ <;> rw [e] at h1 h2 ⊢ <;> omega
        obtain ⟨e1, e2, e3⟩ := e1
        rw [find_small kd x c xs (by rw [e1]; exact hk), e2, if_pos hx, e3]
    · cases e
  | part j k =>
    obtain ⟨h1, h2, h3, h4⟩ := h.part _ j k hk
    obtain ⟨q1, q2, q3⟩ := h.part0 hk
    rw [find_part kd a j k hk] at e
    cases e
    refine ⟨by omega, by omega, by omega, by omega, by omega, fun x g1 g2 => ?_⟩
    have := h4 (x / 64 - (a / 64 - j)) (by omega)
    rw [show a / 64 - j + (x / 64 - (a / 64 - j)) = x / 64 by omega] at this
    rw [find_part kd x _ k this]
    congr 2; omega

/-- A new space. -/
def freshK (n : Nat) : List PK := (List.replicate n PK.free).set 0 .zero
theorem freshK_length (n : Nat) : (freshK n).length = n := by simp [freshK]
theorem freshK_at (n p : Nat) (h : 1 ≤ n) : kat (freshK n) p = if p = 0 then .zero else .free := by
  unfold freshK
  rw [kat_set _ _ _ _ (by simp; omega)]
  split
  · rfl
  · unfold kat; rw [List.getElem?_replicate]; split <;> rfl
theorem freshK_wf (n : Nat) (h1 : 1 ≤ n) (h2 : n ≤ 256) : WF (freshK n) := by
  refine ⟨by rw [freshK_length]; exact h1, by rw [freshK_length]; exact h2, by rw [freshK_at n 0 h1]; rfl, fun p e => ?_, fun p c xs e => ?_, fun p j k e => ?_⟩
  all_goals
    rw [freshK_at n p h1] at e
    split at e
    · first | assumption | cases e
    · cases e
theorem freshK_find (n a : Nat) (h : 1 ≤ n) : findN (freshK n) a = none := by
  have := freshK_at n (a / 64) h
  by_cases e : a / 64 = 0
  · exact find_zero _ _ (by rw [this, if_pos e])
  · exact find_free _ _ (by rw [this, if_neg e])
theorem freshK_taken (n : Nat) (h : 1 ≤ n) : takenL (freshK n) = fresh n := by
  refine beq_of_getD (by rw [takenL_length, freshK_length, fresh_length]) (fun t => ?_)
  rw [takenL_get, freshK_at n t h, fresh_get n t h]
  by_cases e : t = 0 <;> simp [e, PK.taken]
theorem freshK_has (n c p : Nat) (h : 1 ≤ n) : (kat (freshK n) p).has c = false := by
  rw [freshK_at n p h]; split <;> rfl
theorem freshK_big (n : Nat) (h : 1 ≤ n) : bigL (freshK n) = zeros n := by
  refine eq_of_getD (by rw [bigL_length, freshK_length, zeros_length]) (fun t => ?_)
  rw [bigL_get, freshK_at n t h, zeros_get]; split <;> rfl
/-- Where nothing is found, all is as new. -/
theorem WF.is_fresh {kd : List PK} (h : WF kd) (hn : ∀ a, findN kd a = none) : kd = freshK kd.length := by
  refine kat_ext (by rw [freshK_length]) (fun p => ?_)
  rw [freshK_at _ _ h.len1]
  by_cases e : p = 0
  · subst e; rw [if_pos rfl]; exact h.zero
  · rw [if_neg e]
    cases hk : kat kd p with
    | zero => exact absurd (h.only p hk) e
    | free => rfl
    | small c xs =>
      obtain ⟨hc, hl, i, hi⟩ := h.small p c xs hk
      have hil : i < xs.length := by
        rcases Nat.lt_or_ge i xs.length with h1 | h1
        · exact h1
        · rw [List.getElem?_eq_none h1] at hi; cases hi
      have e1 : (64 * p + i * sz c) / 64 = p ∧ (64 * p + i * sz c) % 64 / sz c = i := by
        rw [hl] at hil
        rcases sz_cases c hc with ⟨e, f⟩ | ⟨e, f⟩ | ⟨e, f⟩ | ⟨e, f⟩ | ⟨e, f⟩ <;> rw [e] <;> rw [f] at hil <;> omega
      have := hn (64 * p + i * sz c)
      rw [find_small kd _ c xs (by rw [e1.1]; exact hk), e1.2, if_pos hi] at this
      cases this
    | part j k =>
      have := hn (64 * p)
      rw [find_part kd _ j k (by rw [show 64 * p / 64 = p by omega]; exact hk)] at this
      cases this

end Go.Proofs.YtgpidokklhjfdaaGreat

/-
  What Alloc and Free leave, told by what is found. Plain mathematics.
-/
namespace Go.Proofs.YtgpidokklhjfdaaGreat
open Go.RowKit

theorem kat_ne0 {kd : List PK} (h : WF kd) {p : Nat} (e : kat kd p ≠ .zero) : p ≠ 0 := by
  rintro rfl; exact e h.zero
/-- A page of a class is turned. -/
theorem WF.set_small {kd : List PK} (h : WF kd) {p c : Nat} {ys : List Bool} (hp : p < kd.length) (hk : kat kd p = .free ∨ ∃ d xs, kat kd p = .small d xs) (hc : c < 5) (hl : ys.length = roomOf c) (hy : ∃ i : Nat, ys[i]?.getD false = true) : WF (kd.set p (.small c ys)) := by
  have hp0 : p ≠ 0 := kat_ne0 h (by rcases hk with e | ⟨d, xs, e⟩ <;> rw [e] <;> simp)
  have hnp : ∀ j k, kat kd p ≠ .part j k := by intro j k e; rcases hk with e' | ⟨d, xs, e'⟩ <;> rw [e'] at e <;> cases e
  refine ⟨by simpa using h.len1, by simpa using h.len2, by rw [kat_set_other _ _ _ _ (fun e => hp0 e.symm)]; exact h.zero, fun q e => ?_, fun q d zs e => ?_, fun q j k e => ?_⟩
  · rw [kat_set _ _ _ _ hp] at e
    split at e
    · cases e
    · exact h.only q e
  · rw [kat_set _ _ _ _ hp] at e
    split at e
    · cases e; exact ⟨hc, hl, hy⟩
    · exact h.small q d zs e
  · rw [kat_set _ _ _ _ hp] at e
    split at e
    · cases e
    · obtain ⟨h1, h2, h3, h4⟩ := h.part q j k e
      refine ⟨h1, h2, h3, fun i hi => ?_⟩
      rw [kat_set_other _ _ _ _ (fun e' => hnp i k (by rw [← e']; exact h4 i hi))]
      exact h4 i hi
theorem WF.set_free {kd : List PK} (h : WF kd) {p c : Nat} {xs : List Bool} (hk : kat kd p = .small c xs) : WF (kd.set p .free) := by
  have hp := kat_lt kd p (by rw [hk]; simp)
  have hp0 : p ≠ 0 := kat_ne0 h (by rw [hk]; simp)
  refine ⟨by simpa using h.len1, by simpa using h.len2, by rw [kat_set_other _ _ _ _ (fun e => hp0 e.symm)]; exact h.zero, fun q e => ?_, fun q d zs e => ?_, fun q j k e => ?_⟩
  all_goals
    rw [kat_set _ _ _ _ hp] at e
    split at e
    · cases e
  · exact h.only q e
  · exact h.small q d zs e
  · obtain ⟨h1, h2, h3, h4⟩ := h.part q j k e
    refine ⟨h1, h2, h3, fun i hi => ?_⟩
    rw [kat_set_other _ _ _ _ (fun e' => by have := h4 i hi; rw [e', hk] at this; cases this)]
    exact h4 i hi
theorem WF.put {kd : List PK} (h : WF kd) {p k : Nat} (hk1 : 1 ≤ k) (hk : k ≤ 16) (hcl : Clear (takenL kd) p k) : WF (putParts kd p k) := by
  obtain ⟨hl, hf⟩ := clear_free hcl
  have hp0 : p ≠ 0 := kat_ne0 h (by rw [hf p (by omega) (by omega)]; simp)
  refine ⟨by rw [putParts_length]; exact h.len1, by rw [putParts_length]; exact h.len2, by rw [putParts_at _ _ _ _ hl, if_neg (by omega)]; exact h.zero, fun q e => ?_, fun q d zs e => ?_, fun q j m e => ?_⟩
  all_goals rw [putParts_at _ _ _ _ hl] at e
  · split at e
    · cases e
    · exact h.only q e
  · split at e
    · cases e
    · exact h.small q d zs e
  · split at e
    · rename_i hq
      cases e
      refine ⟨by omega, hk, by omega, fun i hi => ?_⟩
      rw [putParts_at _ _ _ _ hl, if_pos (by omega)]
      congr 1; omega
    · obtain ⟨h1, h2, h3, h4⟩ := h.part q j m e
      refine ⟨h1, h2, h3, fun i hi => ?_⟩
      rw [putParts_at _ _ _ _ hl, if_neg ?_]
      · exact h4 i hi
      · intro hq
        have := hf _ hq.1 hq.2
        rw [h4 i hi] at this; cases this
theorem WF.unput {kd : List PK} (h : WF kd) {p k : Nat} (hk : kat kd p = .part 0 k) : WF (freeParts kd p k) := by
  obtain ⟨g1, g2, g3, g4⟩ := h.part p 0 k hk
  have hp0 := (h.part0 hk).1
  rw [Nat.sub_zero] at g4 hp0
  refine ⟨by rw [freeParts_length]; exact h.len1, by rw [freeParts_length]; exact h.len2, by rw [freeParts_at, if_neg (by omega)]; exact h.zero, fun q e => ?_, fun q d zs e => ?_, fun q j m e => ?_⟩
  all_goals
    rw [freeParts_at] at e
    split at e
    · cases e
  · exact h.only q e
  · exact h.small q d zs e
  · rename_i hq
    obtain ⟨h1, h2, h3, h4⟩ := h.part q j m e
    refine ⟨h1, h2, h3, fun i hi => ?_⟩
    rw [freeParts_at, if_neg ?_]
    · exact h4 i hi
    · intro hr
      -- page q - j + i is of both: then both are one
      have e1 := h4 i hi
      have e2 := g4 (q - j + i - p) (by omega)
      rw [show p + (q - j + i - p) = q - j + i by omega, e1] at e2
      have e3 : i = q - j + i - p ∧ m = k := by simpa using e2
      exact hq (by omega)

theorem run_clear {ts : List Bool} {k p : Nat} (hk : 1 ≤ k) (h : runR ts 0 k = p) : Clear ts p k := by
  rcases runR_spec ts k hk _ 0 rfl with ⟨e, _⟩ | ⟨j, e, _, e2, _⟩
  · rw [h] at e; omega
  · obtain rfl : p = j := by rw [h] at e; omega
    exact e2

/-- What Alloc leaves. -/
theorem AllocR.spec {kd kd' : List PK} {n : Int} {a : Nat} (h : WF kd) (hr : AllocR kd n (some (a, kd'))) : ∃ b : Nat, blockI n = b ∧ 1 ≤ b ∧ WF kd' ∧ kd'.length = kd.length ∧ 64 ≤ a ∧ a + b ≤ 64 * kd.length ∧
    (∀ x, a ≤ x → x < a + b → findN kd x = none) ∧ ∀ x, findN kd' x = if a ≤ x ∧ x < a + b then some (a, b) else findN kd x := by
  cases hr with
  | old c p i xs h1 h2 h3 h4 h5 =>
    obtain ⟨hc, hl, _⟩ := h.small p c xs h3
    have hp := kat_lt kd p (by rw [h3]; simp)
    have hp0 : p ≠ 0 := kat_ne0 h (by rw [h3]; simp)
    obtain ⟨z1, z2, z3, z4, z5, z6, z7⟩ := sz_facts c hc
    have hi : xs[i]?.getD false = false := by
      rcases nextR_spec xs false _ 0 rfl with ⟨e, _⟩ | ⟨j, e, _, _, e3, _⟩
      · rw [h4] at e; omega
      · obtain rfl : i = j := by rw [h4] at e; omega
        exact e3
    have key : ∀ x, x / 64 = p → ((64 * p + i * sz c ≤ x ∧ x < 64 * p + i * sz c + sz c) ↔ x % 64 / sz c = i) ∧ (x % 64 / sz c = i → x - x % sz c = 64 * p + i * sz c) := by
      intro x hx
      rw [hl] at h5
      rcases sz_cases c hc with ⟨e, f⟩ | ⟨e, f⟩ | ⟨e, f⟩ | ⟨e, f⟩ | ⟨e, f⟩ <;> rw [e] <;> rw [f] at h5 <;> omega
    have key2 : ∀ x, 64 * p + i * sz c ≤ x → x < 64 * p + i * sz c + sz c → x / 64 = p := by
      intro x a b
      rw [hl] at h5
      rcases sz_cases c hc with ⟨e, f⟩ | ⟨e, f⟩ | ⟨e, f⟩ | ⟨e, f⟩ | ⟨e, f⟩ <;> rw [e] at a b <;> rw [f] at h5 <;> omega
    have hmul : i * sz c + sz c ≤ 64 := by
      rw [hl] at h5
      rcases sz_cases c hc with ⟨e, f⟩ | ⟨e, f⟩ | ⟨e, f⟩ | ⟨e, f⟩ | ⟨e, f⟩ <;> rw [e] <;> rw [f] at h5 <;> omega
    refine ⟨sz c, by rw [block_class n c h1]; exact (sz_facts c hc).1, by omega, h.set_small hp (.inr ⟨c, xs, h3⟩) hc (by rw [List.length_set]; exact hl) ⟨i, by rw [bset_same _ _ _ h5]⟩, by simp, by omega, by omega, fun x g1 g2 => ?_, fun x => ?_⟩
    · have e := key2 x g1 g2
      rw [find_small kd x c xs (by rw [e]; exact h3), ((key x e).1.1 ⟨g1, g2⟩), hi]; rfl
    · by_cases e : x / 64 = p
      · rw [find_small _ x c (xs.set i true) (by rw [e]; exact kat_set_same _ _ _ hp)]
        by_cases e2 : x % 64 / sz c = i
        · rw [e2, bset_same _ _ _ h5, if_pos rfl, if_pos ((key x e).1.2 e2), (key x e).2 e2]
        · rw [bset_other _ _ _ _ (fun e' => e2 e'.symm), if_neg (fun g => e2 ((key x e).1.1 g)), find_small kd x c xs (by rw [e]; exact h3)]
      · rw [if_neg (fun g => e (key2 x g.1 g.2))]
        unfold findN; rw [kat_set_other _ _ _ _ e]
  | new c p h1 h2 h3 =>
    obtain ⟨c', hc', hc5⟩ : ∃ j : Nat, classI n = j ∧ j < 5 := by
      rcases class_lt n with e | e
      · rw [h1] at e; omega
      · exact e
    obtain rfl : c = c' := by rw [h1] at hc'; omega
    obtain ⟨z1, z2, z3, z4, z5, z6, z7⟩ := sz_facts c hc5
    obtain ⟨hpl, hf⟩ := clear_free (run_clear (by omega) h3)
    have hfp := hf p (by omega) (by omega)
    have hp0 : p ≠ 0 := kat_ne0 h (by rw [hfp]; simp)
    have key : ∀ x, x / 64 = p → ((64 * p ≤ x ∧ x < 64 * p + sz c) ↔ x % 64 / sz c = 0) ∧ (x % 64 / sz c = 0 → x - x % sz c = 64 * p) := by
      intro x hx
      rcases sz_cases c hc5 with ⟨e, f⟩ | ⟨e, f⟩ | ⟨e, f⟩ | ⟨e, f⟩ | ⟨e, f⟩ <;> rw [e] <;> omega
    refine ⟨sz c, by rw [block_class n c h1]; exact (sz_facts c hc5).1, by omega, h.set_small (by omega) (.inl hfp) hc5 (by rw [List.length_set, offs_length]) ⟨0, by rw [bset_same _ _ _ (by rw [offs_length]; omega)]⟩, by simp, by omega, by omega, fun x g1 g2 => ?_, fun x => ?_⟩
    · exact find_free kd x (by rw [show x / 64 = p by omega]; exact hfp)
    · by_cases e : x / 64 = p
      · rw [find_small _ x c ((offs (roomOf c)).set 0 true) (by rw [e]; exact kat_set_same _ _ _ (by omega))]
        by_cases e2 : x % 64 / sz c = 0
        · rw [e2, bset_same _ _ _ (by rw [offs_length]; omega), if_pos rfl, if_pos ((key x e).1.2 e2), (key x e).2 e2]
        · rw [bset_other _ _ _ _ (fun e' => e2 e'.symm), offs_get, if_neg (by simp), if_neg (fun g => e2 ((key x e).1.1 g)), find_free kd x (by rw [e]; exact hfp)]
      · rw [if_neg (fun g => e (by omega))]
        unfold findN; rw [kat_set_other _ _ _ _ e]
  | large k p h1 h2 h3 h4 =>
    have hcl := run_clear h3 h4
    obtain ⟨hpl, hf⟩ := clear_free hcl
    have hp0 : p ≠ 0 := kat_ne0 h (by rw [hf p (by omega) (by omega)]; simp)
    have hk16 : k ≤ 16 := by have := (pages_le n).2; omega
    refine ⟨64 * k, by rw [block_none n h1, h2]; omega, by omega, h.put h3 hk16 hcl, putParts_length _ _ _, by omega, by omega, fun x g1 g2 => ?_, fun x => ?_⟩
    · exact find_free kd x (hf _ (by omega) (by omega))
    · by_cases e : p ≤ x / 64 ∧ x / 64 < p + k
      · rw [find_part _ x (x / 64 - p) k (by rw [putParts_at _ _ _ _ hpl, if_pos e]), if_pos (by omega)]
        congr 2; omega
      · rw [if_neg (by omega)]
        unfold findN; rw [putParts_at _ _ _ _ hpl, if_neg e]

theorem noneB_no {xs : List Bool} {i : Nat} (h : xs[i]?.getD false = true) : noneB xs = false := by
  unfold noneB
  have hl : i < xs.length := by
    rcases Nat.lt_or_ge i xs.length with h1 | h1
    · exact h1
    · rw [List.getElem?_eq_none h1] at h; cases h
  rcases nextR_spec xs true _ 0 rfl with ⟨_, e⟩ | ⟨j, e, _⟩
  · exact absurd h (e i (by omega) hl)
  · rw [e]; simp
theorem noneB_yes {xs : List Bool} (h : noneB xs = true) : ∀ i : Nat, xs[i]?.getD false = false := by
  intro i
  cases e : xs[i]?.getD false
  · rfl
  · rw [noneB_no e] at h; cases h
theorem noneB_ex {xs : List Bool} (h : noneB xs = false) : ∃ i : Nat, xs[i]?.getD false = true := by
  unfold noneB at h
  rcases nextR_spec xs true _ 0 rfl with ⟨e, _⟩ | ⟨j, e, _, _, e3, _⟩
  · rw [e] at h; cases h
  · exact ⟨j, e3⟩

/-- What Free leaves, where a block begins. -/
theorem FreeR.ex {kd : List PK} {a m : Nat} (h : WF kd) (hf : findN kd a = some (a, m)) : ∃ kd', FreeR kd a kd' := by
  cases hk : kat kd (a / 64) with
  | zero => rw [find_zero kd a hk] at hf; cases hf
  | free => rw [find_free kd a hk] at hf; cases hf
  | small c xs =>
    obtain ⟨hc, _, _⟩ := h.small _ c xs hk
    have z3 := (sz_facts c hc).2.2.1
    rw [find_small kd a c xs hk] at hf
    split at hf
    · rename_i hx
      have e : a - a % sz c = a := by simpa using congrArg (fun o => (o.getD (0, 0)).1) hf
      have e0 : a % sz c = 0 := by have := Nat.mod_le a (sz c); omega
      cases hn : noneB (xs.set (a % 64 / sz c) false)
      · exact ⟨_, .one c xs hk hx e0 hn⟩
      · exact ⟨_, .last c xs hk hx e0 hn⟩
    · cases hf
  | part j k =>
    rw [find_part kd a j k hk] at hf
    have e : 64 * (a / 64 - j) = a := by simpa using congrArg (fun o => (o.getD (0, 0)).1) hf
    have := (h.part _ j k hk).2.2.1
    have := (h.part0 hk).1
    obtain rfl : j = 0 := by omega
    exact ⟨_, .large k hk (by omega)⟩
theorem FreeR.spec {kd kd' : List PK} {a m : Nat} (h : WF kd) (hf : findN kd a = some (a, m)) (hr : FreeR kd a kd') : WF kd' ∧ kd'.length = kd.length ∧ ∀ x, findN kd' x = if a ≤ x ∧ x < a + m then none else findN kd x := by
  have hkey : ∀ c xs, kat kd (a / 64) = .small c xs → xs[a % 64 / sz c]?.getD false = true → a % sz c = 0 → m = sz c ∧ ∀ x, (a ≤ x ∧ x < a + sz c ↔ x / 64 = a / 64 ∧ x % 64 / sz c = a % 64 / sz c) := by
    intro c xs h1 h2 h3
    obtain ⟨hc, hl, _⟩ := h.small _ c xs h1
    rw [find_small kd a c xs h1, if_pos h2] at hf
    refine ⟨by simpa using congrArg (fun o => (o.getD (0, 0)).2) hf.symm, fun x => ?_⟩
    rcases sz_cases c hc with ⟨e, f⟩ | ⟨e, f⟩ | ⟨e, f⟩ | ⟨e, f⟩ | ⟨e, f⟩ <;> rw [e] at h3 ⊢ <;> omega
  cases hr with
  | one c xs h1 h2 h3 h4 =>
    obtain ⟨hc, hl, _⟩ := h.small _ c xs h1
    obtain ⟨rfl, hx⟩ := hkey c xs h1 h2 h3
    have hp := kat_lt kd (a / 64) (by rw [h1]; simp)
    have hil : a % 64 / sz c < xs.length := by rw [hl]; exact (sz_word c a hc).2.1
    refine ⟨h.set_small hp (.inr ⟨c, xs, h1⟩) hc (by rw [List.length_set]; exact hl) (noneB_ex h4), by simp, fun x => ?_⟩
    by_cases e : x / 64 = a / 64
    · rw [find_small _ x c (xs.set (a % 64 / sz c) false) (by rw [e]; exact kat_set_same _ _ _ hp)]
      by_cases e2 : x % 64 / sz c = a % 64 / sz c
      · rw [e2, bset_same _ _ _ hil, if_neg (by simp), if_pos ((hx x).2 ⟨e, e2⟩)]
      · rw [bset_other _ _ _ _ (fun e' => e2 e'.symm), if_neg (fun g => e2 ((hx x).1 g).2), find_small kd x c xs (by rw [e]; exact h1)]
    · rw [if_neg (fun g => e ((hx x).1 g).1)]
      unfold findN; rw [kat_set_other _ _ _ _ e]
  | last c xs h1 h2 h3 h4 =>
    obtain ⟨hc, hl, _⟩ := h.small _ c xs h1
    obtain ⟨rfl, hx⟩ := hkey c xs h1 h2 h3
    have hp := kat_lt kd (a / 64) (by rw [h1]; simp)
    have hil : a % 64 / sz c < xs.length := by rw [hl]; exact (sz_word c a hc).2.1
    refine ⟨h.set_free h1, by simp, fun x => ?_⟩
    by_cases e : x / 64 = a / 64
    · rw [find_free _ x (by rw [e]; exact kat_set_same _ _ _ hp)]
      by_cases e2 : x % 64 / sz c = a % 64 / sz c
      · rw [if_pos ((hx x).2 ⟨e, e2⟩)]
      · have := noneB_yes h4 (x % 64 / sz c)
        rw [bset_other _ _ _ _ (fun e' => e2 e'.symm)] at this
        rw [if_neg (fun g => e2 ((hx x).1 g).2), find_small kd x c xs (by rw [e]; exact h1), this]; rfl
    · rw [if_neg (fun g => e ((hx x).1 g).1)]
      unfold findN; rw [kat_set_other _ _ _ _ e]
  | large k h1 h2 =>
    obtain ⟨g1, g2, g3, g4⟩ := h.part _ 0 k h1
    rw [find_part kd a 0 k h1] at hf
    have hm : 64 * k = m := by simpa using congrArg (fun o => (o.getD (0, 0)).2) hf
    subst hm
    refine ⟨h.unput h1, freeParts_length _ _ _, fun x => ?_⟩
    by_cases e : a / 64 ≤ x / 64 ∧ x / 64 < a / 64 + k
    · rw [find_free _ x (by rw [freeParts_at, if_pos e]), if_pos (by omega)]
    · rw [if_neg (by omega)]
      unfold findN; rw [freeParts_at, if_neg e]

end Go.Proofs.YtgpidokklhjfdaaGreat
