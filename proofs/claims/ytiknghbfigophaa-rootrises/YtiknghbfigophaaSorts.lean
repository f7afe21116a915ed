/-
  The library's Sort, Clone and Compact on lists of integers that the call owns: what the shelf's contracts say, in this program's numbers.
-/
import Derived.Test.YtiknghbfigophaaRows
import Derived.Test.YtiknghbfigophaaMergeM
import Derived.Test.YtiknghbfigophaaTwin
import Derived.Shelf.Sort.Plain
import Derived.Shelf.Slices.Clone
import Derived.Shelf.Slices.CompactI
import Derived.Shelf.Slices.In.SortNone
import Derived.Lib.OwnBridge
import Derived.Sort.Grow
namespace Go.Proofs.Ytiknghbfigophaa
open Go.RowKit Go.Sort

/-- The numbers of slices.Sort and of what it calls. -/
def sortsN : Go.Shelf.Ren := ⟨fun | 189 => 18 | 125 => 22 | 257 => 21 | 128 => 32 | 129 => 33 | 294 => 23 | 295 => 24 | 296 => 25 | 297 => 26 | 298 => 27 | 299 => 28 | 216 => 29 | 300 => 30 | 301 => 31 | 328 => 34 | 329 => 35 | 330 => 36 | 331 => 37 | 332 => 38 | 215 => 39 | 343 => 40 | n => n, fun | 28 => 22 | 3 => 3 | 46 => 49 | 0 => 0 | 51 => 60 | 53 => 62 | 4 => 4 | 183 => 52 | 182 => 51 | 131 => 57 | 5 => 5 | 9 => 9 | 218 => 63 | 222 => 67 | 228 => 69 | 229 => 70 | n => n, fun | n => n⟩
theorem sortsN_lays : Go.Proofs.Lays.n189 Try.prog sortsN := {
  mixed := by kernel_rfl
  f125 := Try.func22.trans (congrArg some (by kernel_rfl))
  f128 := Try.func32.trans (congrArg some (by kernel_rfl))
  f129 := Try.func33.trans (congrArg some (by kernel_rfl))
  f189 := Try.func18.trans (congrArg some (by kernel_rfl))
  f215 := Try.func39.trans (congrArg some (by kernel_rfl))
  f216 := Try.func29.trans (congrArg some (by kernel_rfl))
  f257 := Try.func21.trans (congrArg some (by kernel_rfl))
  f294 := Try.func23.trans (congrArg some (by kernel_rfl))
  f295 := Try.func24.trans (congrArg some (by kernel_rfl))
  f296 := Try.func25.trans (congrArg some (by kernel_rfl))
  f297 := Try.func26.trans (congrArg some (by kernel_rfl))
  f298 := Try.func27.trans (congrArg some (by kernel_rfl))
  f299 := Try.func28.trans (congrArg some (by kernel_rfl))
  f300 := Try.func30.trans (congrArg some (by kernel_rfl))
  f301 := Try.func31.trans (congrArg some (by kernel_rfl))
  f328 := Try.func34.trans (congrArg some (by kernel_rfl))
  f329 := Try.func35.trans (congrArg some (by kernel_rfl))
  f330 := Try.func36.trans (congrArg some (by kernel_rfl))
  f331 := Try.func37.trans (congrArg some (by kernel_rfl))
  f332 := Try.func38.trans (congrArg some (by kernel_rfl))
  f343 := Try.func40.trans (congrArg some (by kernel_rfl))
  t0 := Try.underlying0
  a0 := Try.isAgg0
  z0 := Try.sizeOf0
  v0 := Try.zeroValue0
  t3 := Try.underlying3
  a3 := Try.isAgg3
  z3 := Try.sizeOf3
  v3 := Try.zeroValue3
  t4 := Try.underlying4
  a4 := Try.isAgg4
  z4 := Try.sizeOf4
  v4 := Try.zeroValue4
  t5 := Try.underlying5
  a5 := Try.isAgg5
  z5 := Try.sizeOf5
  v5 := Try.zeroValue5
  t9 := Try.underlying9
  a9 := Try.isAgg9
  z9 := Try.sizeOf9
  v9 := Try.zeroValue9
  t28 := Try.underlying22
  a28 := Try.isAgg22
  z28 := Try.sizeOf22
  v28 := Try.zeroValue22
  t46 := Try.underlying49
  a46 := Try.isAgg49
  z46 := Try.sizeOf49
  v46 := Try.zeroValue49
  t51 := Try.underlying60
  a51 := Try.isAgg60
  z51 := Try.sizeOf60
  v51 := Try.zeroValue60
  t53 := Try.underlying62
  a53 := Try.isAgg62
  z53 := Try.sizeOf62
  v53 := Try.zeroValue62
  t131 := Try.underlying57
  a131 := Try.isAgg57
  z131 := Try.sizeOf57
  v131 := Try.zeroValue57
  t182 := Try.underlying51
  a182 := Try.isAgg51
  z182 := Try.sizeOf51
  v182 := Try.zeroValue51
  t183 := Try.underlying52
  a183 := Try.isAgg52
  z183 := Try.sizeOf52
  v183 := Try.zeroValue52
  t218 := Try.underlying63
  a218 := Try.isAgg63
  z218 := Try.sizeOf63
  v218 := Try.zeroValue63
  t222 := Try.underlying67
  a222 := Try.isAgg67
  z222 := Try.sizeOf67
  v222 := Try.zeroValue67
  t228 := Try.underlying69
  a228 := Try.isAgg69
  z228 := Try.sizeOf69
  v228 := Try.zeroValue69
  t229 := Try.underlying70
  a229 := Try.isAgg70
  z229 := Try.sizeOf70
  v229 := Try.zeroValue70 }
/-- The numbers of slices.Clone and of what it calls. -/
def cloneN : Go.Shelf.Ren := ⟨fun | 15 => 17 | n => n, fun | 22 => 22 | 3 => 3 | 4 => 4 | n => n, fun | n => n⟩
theorem cloneN_lays : Go.Proofs.Lays2.n15 Try.prog cloneN := {
  mixed := by kernel_rfl
  f15 := Try.func17.trans (congrArg some (by kernel_rfl))
  t3 := Try.underlying3
  a3 := Try.isAgg3
  z3 := Try.sizeOf3
  v3 := Try.zeroValue3
  t4 := Try.underlying4
  a4 := Try.isAgg4
  z4 := Try.sizeOf4
  v4 := Try.zeroValue4
  t22 := Try.underlying22
  a22 := Try.isAgg22
  z22 := Try.sizeOf22
  v22 := Try.zeroValue22
  i3 := by kernel_rfl }
/-- The numbers of slices.Compact and of what it calls. -/
def compactN : Go.Shelf.Ren := ⟨fun | 20 => 19 | n => n, fun | 22 => 22 | 3 => 3 | 4 => 4 | 0 => 0 | n => n, fun | n => n⟩
theorem compactN_lays : Go.Proofs.Lays2.n20 Try.prog compactN := {
  mixed := by kernel_rfl
  f20 := Try.func19.trans (congrArg some (by kernel_rfl))
  t0 := Try.underlying0
  a0 := Try.isAgg0
  z0 := Try.sizeOf0
  v0 := Try.zeroValue0
  t3 := Try.underlying3
  a3 := Try.isAgg3
  z3 := Try.sizeOf3
  v3 := Try.zeroValue3
  t4 := Try.underlying4
  a4 := Try.isAgg4
  z4 := Try.sizeOf4
  v4 := Try.zeroValue4
  t22 := Try.underlying22
  a22 := Try.isAgg22
  z22 := Try.sizeOf22
  v22 := Try.zeroValue22
  i3 := by kernel_rfl }

theorem keep_put {α : Type} [Inhabited α] {enc : α → Value} (w : World) (g q : Nat) (d : Array α) : Keep [g] w (putRow enc (Sort.ahead w q) g 0 d) := by
  refine ⟨rfl, rfl, rfl, by simp [putRow, mapBlock, Sort.ahead], fun k hk hS => ?_⟩
  have : g ≠ k := by simp at hS; omega
  simp [putRow, mapBlock, Sort.ahead, Array.getElem?_modify, this]
theorem keep_grow (w : World) (os : Array Obj) : Keep [] w (grow w os) :=
  ⟨rfl, rfl, rfl, by simp, fun k hk _ => heap_grow_old w os hk⟩
theorem own_some {w : World} {base : Nat} {e : TypeId} {size : Nat} {v : Value} {n : Nat} {xs : List Value} (h : w.ownsRow base e size v n xs) (hv : v = .slice none 0 0) : xs = [] ∧ n = 0 := by
  rcases h.2 with ⟨_, h0⟩ | ⟨g, cap, cur, h1, _⟩
  · have := h.1; subst h0; simp at this; exact ⟨this, rfl⟩
  · rw [hv] at h1; cases h1

theorem ssort {base n : Nat} {L : List Int} (v : Value) (w : World) (h : w.ownsRow base 3 1 v n (ints L)) (hn : n ≤ 1000000) :
    Calls Try.prog 18 #[v] w fun e w' => e = .returned (.tuple #[]) ∧ w'.ownsRow base 3 1 v n (ints (sortL L)) ∧ Keep v.ownBlock.toList w w' := by
  have hl : L.length = n := by have := h.1; rw [ints_length, Nat.mul_one] at this; exact this
  by_cases hv : v = .slice none 0 0
  · obtain ⟨h1, h2⟩ := own_some h hv
    subst hv
    obtain rfl : L = [] := by simpa [ints] using h1
    refine (Any.slices_Sort_int_none sortsN_lays none 0 w).mono ?_
    rintro e w' ⟨rfl, rfl⟩
    exact ⟨rfl, by rw [show sortL [] = [] from by simp [sortL]]; exact h, Keep.refl _ _⟩
  · obtain ⟨g, cap, rfl, hb, hg, hc, hm, _, hH⟩ := Lib.holds_of_ownsRow h hv
    subst hl
    refine (Any.slices_Sort_int sortsN_lays g 0 cap L w hH hg (by omega)).mono ?_
    rintro e w' ⟨rfl, q, os, rfl⟩
    have h1 := Lib.ownsRow_putRow (q := q) (k := L.length) (ys := sortL L) h (sortL_length L) (Nat.le_refl _)
    rw [List.take_of_length_le (by rw [sortL_length]; exact Nat.le_refl _)] at h1
    have h2 := own_keepS h1 (keep_grow _ os) (by simp)
    exact ⟨rfl, h2, (keep_put w g q _).trans ((keep_grow _ os).mono (by simp))⟩
theorem scompact {base n : Nat} {L : List Int} (v : Value) (w : World) (h : w.ownsRow base 3 1 v n (ints L)) (hn : n ≤ 1000000) :
    Calls Try.prog 19 #[v] w fun e w' => ∃ v' n', e = .returned v' ∧ w'.ownsRow base 3 1 v' n' (ints (Lib.compact L)) ∧ v'.ownBlock = v.ownBlock ∧ Keep v.ownBlock.toList w w' := by
  have hl : L.length = n := by have := h.1; rw [ints_length, Nat.mul_one] at this; exact this
  by_cases hv : v = .slice none 0 0
  · obtain ⟨h1, h2⟩ := own_some h hv
    subst hv
    obtain rfl : L = [] := by simpa [ints] using h1
    refine (Any.slices_Compact_int_empty compactN_lays none 0 w).mono ?_
    rintro e w' ⟨rfl, rfl⟩
    exact ⟨_, n, rfl, by rw [show Lib.compact ([] : List Int) = [] from rfl]; exact h, rfl, Keep.refl _ _⟩
  · obtain ⟨g, cap, rfl, hb, hg, hc, hm, _, hH⟩ := Lib.holds_of_ownsRow h hv
    subst hl
    refine (Any.slices_Compact_int compactN_lays g 0 cap L w hH (by omega) hc).mono ?_
    rintro e w' ⟨rfl, q, rfl⟩
    have hle := compact_le L
    have h1 := Lib.ownsRow_putRow (q := q) (k := (Lib.compact L).length) (ys := Lib.compact L ++ List.replicate (L.length - (Lib.compact L).length) 0) h (by simp; omega) hle
    rw [List.take_left] at h1
    exact ⟨_, _, rfl, h1, rfl, keep_put w g q _⟩
/-- A copy of a piece of a row, in memory that is new. -/
theorem sclone {n : Nat} {L : List Int} (b c : Nat) (w : World) (hc : ∀ j, j < n → w.cell? ⟨b, j, none⟩ = some (.int .i64 (L[j]?.getD 0))) (hl : L.length = n) (hn : n ≤ 1000000) :
    Calls Try.prog 17 #[.slice (some ⟨b, 0, none⟩) n c] w fun e w' => ∃ v', e = .returned v' ∧ w'.ownsRow w.heap.size 3 1 v' n (ints L) ∧ Keep [] w w' := by
  refine (Any.slices_Clone_int cloneN_lays b 0 n c L w (by omega) (by omega) (fun j hj => by rw [Nat.zero_add, hc j (by omega)]; simp)).mono ?_
  rintro e w' ⟨v', rfl, h1, h2, h3⟩
  rw [List.take_of_length_le (by omega)] at h1
  exact ⟨v', rfl, h1, Keep.ofBelow h3 (Nat.le_refl _)⟩

end Go.Proofs.Ytiknghbfigophaa
