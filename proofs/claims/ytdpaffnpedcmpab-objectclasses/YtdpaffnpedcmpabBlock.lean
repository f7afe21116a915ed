/-
  What each call of package block does, said of a Page in memory: its block, the Bits' block, the block of its places, the size of a block of it, its places.
-/
import Derived.Test.YtdpaffnpedcmpabBits
import Derived.Test.YtdpaffnpedcmpabPuts
import Derived.Test.YtdpaffnpedcmpabSize
import Derived.Deep.RegionHeld3
namespace Go.Proofs.Ytdpaffnpedcmpab
open Go.RowKit

/-- Block pb is a Page of blocks of s words whose Bits is block b, whose places xs lie in block g. -/
structure IsPage (w : World) (pb b g : Nat) (s : Int) (xs : List Bool) : Prop where
  ne1 : pb ≠ b
  ne2 : pb ≠ g
  head : w.heap[pb]? = some (.cells #[.pointer (some ⟨b, 0, none⟩), .int .i64 s] 110 (0, 0))
  bits : IsBits w b g xs

theorem IsPage.cell {w : World} {pb b g : Nat} {s : Int} {xs : List Bool} (h : IsPage w pb b g s xs) : w.cell? ⟨pb, 0, none⟩ = some (.pointer (some ⟨b, 0, none⟩)) := by simp [World.cell?, h.head]
theorem IsPage.cell1 {w : World} {pb b g : Nat} {s : Int} {xs : List Bool} (h : IsPage w pb b g s xs) : w.cell? ⟨pb, 1, none⟩ = some (.int .i64 s) := by simp [World.cell?, h.head]
theorem IsPage.keep {S : List Nat} {w w' : World} {pb b g : Nat} {s : Int} {xs : List Bool} (h : IsPage w pb b g s xs) (k : Keep S w w') (hp : pb ∉ S) (hb : b ∉ S) (hg : g ∉ S) : IsPage w' pb b g s xs :=
  ⟨h.ne1, h.ne2, k.blk h.head hp, h.bits.keep k hb hg⟩
theorem IsPage.other {w w' : World} {pb b g : Nat} {s : Int} {xs ys : List Bool} (h : IsPage w pb b g s xs) (k : Keep [g] w w') (r : IsBits w' b g ys) : IsPage w' pb b g s ys :=
  ⟨h.ne1, h.ne2, k.blk h.head (by simpa using h.ne2), r⟩
theorem IsPage.lt {w : World} {pb b g : Nat} {s : Int} {xs : List Bool} (h : IsPage w pb b g s xs) : pb < w.heap.size ∧ b < w.heap.size ∧ g < w.heap.size := ⟨lt_of_block h.head, h.bits.lt⟩
theorem IsPage.drew {w : World} {pb b g : Nat} {s : Int} {xs : List Bool} (h : IsPage w pb b g s xs) : IsPage w.drew pb b g s xs := h.keep (Keep.drew [] w) (by simp) (by simp) (by simp)

/-- What Take and Give leave, and what they answer; whether none, whether all are so. -/
def tkN (xs : List Bool) : Int := if nextR xs 0 false < 0 then 0 else nextR xs 0 false
def tkE (xs : List Bool) : Int := if nextR xs 0 false < 0 then 3 else 0
def tkR (xs : List Bool) : List Bool := if nextR xs 0 false < 0 then xs else xs.set (nextR xs 0 false).toNat true
def gvE (xs : List Bool) (i : Int) : Int := if hasR xs i = true then 0 else 2
def gvR (xs : List Bool) (i : Int) : List Bool := if hasR xs i = true then xs.set i.toNat false else xs
theorem tkR_length (xs : List Bool) : (tkR xs).length = xs.length := by
  unfold tkR; split
  · rfl
  · exact List.length_set ..
theorem gvR_length (xs : List Bool) (i : Int) : (gvR xs i).length = xs.length := by
  unfold gvR; split
  · exact List.length_set ..
  · rfl
theorem tk_no (xs : List Bool) (h : nextR xs 0 false = -1) : tkN xs = 0 ∧ tkE xs = 3 ∧ tkR xs = xs := by
  unfold tkN tkE tkR; rw [h]; exact ⟨rfl, rfl, rfl⟩
theorem tk_yes (xs : List Bool) (j : Nat) (h : nextR xs 0 false = j) : tkN xs = j ∧ tkE xs = 0 ∧ tkR xs = xs.set j true := by
  have hn : ¬ ((j : Int) < 0) := by omega
  unfold tkN tkE tkR; rw [h]
  exact ⟨if_neg hn, if_neg hn, by rw [if_neg hn, Int.toNat_natCast]⟩
theorem gv_no (xs : List Bool) (i : Int) (h : hasR xs i = false) : gvE xs i = 2 ∧ gvR xs i = xs := by
  unfold gvE gvR; rw [h]; exact ⟨rfl, rfl⟩
theorem gv_yes (xs : List Bool) (i : Nat) (h : hasR xs i = true) : gvE xs i = 0 ∧ gvR xs i = xs.set i false := by
  unfold gvE gvR; exact ⟨if_pos h, by rw [if_pos h, Int.toNat_natCast]⟩
theorem has_in (xs : List Bool) (i : Int) (h : hasR xs i = true) : 0 ≤ i ∧ i < xs.length := by
  unfold hasR at h
  rw [Bool.and_eq_true] at h
  have := h.1
  unfold isPl at this
  simpa using this
def noneB (xs : List Bool) : Bool := decide (nextR xs 0 true < 0)
def allB (xs : List Bool) : Bool := decide (nextR xs 0 false < 0)
theorem none_count (xs : List Bool) : noneB xs = decide ((cntA xs : Int) = 0) := by
  unfold noneB
  rcases nextR_spec xs true _ 0 rfl with ⟨h1, h2⟩ | ⟨j, h1, _, h2, h3, _⟩
  · rw [h1, cntA_none xs (fun t => by
      rcases Nat.lt_or_ge t xs.length with h | h
      · simpa using h2 t (by omega) h
      · rw [List.getElem?_eq_none h]; rfl)]
    rfl
  · have := cntA_pos xs j h2 h3
    rw [h1, decide_eq_false (by omega), decide_eq_false (by omega)]
theorem all_count (xs : List Bool) : allB xs = decide ((cntA xs : Int) = xs.length) := by
  have hq : cntA xs = xs.countP (fun x => x) := by unfold cntA cnt; rw [List.take_of_length_le (Nat.le_refl _)]
  have he := List.countP_eq_length (p := fun x : Bool => x) (l := xs)
  unfold allB
  rcases nextR_spec xs false _ 0 rfl with ⟨h1, h2⟩ | ⟨j, h1, _, h2, h3, _⟩
  · have : cntA xs = xs.length := by
      rw [hq, he]
      intro a ha
      obtain ⟨t, ht⟩ := List.mem_iff_getElem?.1 ha
      have hl : t < xs.length := by
        rcases Nat.lt_or_ge t xs.length with h | h
        · exact h
        · rw [List.getElem?_eq_none h] at ht; cases ht
      have := h2 t (by omega) hl
      rw [ht] at this
      simpa using this
    rw [h1, decide_eq_true (by omega), decide_eq_true (by omega)]
  · have : cntA xs ≠ xs.length := by
      rw [hq]
      intro e
      have := (he.1 e) (xs[j]) (List.getElem_mem ..)
      simp [h2, this] at h3
    rw [h1, decide_eq_false (by omega), decide_eq_false (by omega)]

set_option maxHeartbeats 400000 in
theorem kwords_any (pb b g : Nat) (s : Int) (xs : List Bool) (w : World) (hp : IsPage w pb b g s xs) :
    Calls Try.prog 64 #[.pointer (some ⟨pb, 0, none⟩)] w fun e w' => e = .returned (.int .i64 s) ∧ w = w' := by
  have hc := hp.cell1
  clear hp
  go_enter Try.func64, Try.ntmps64
  go_wp2
  go_ret
  exact ⟨rfl, rfl⟩
set_option maxHeartbeats 400000 in
theorem kempty_any (pb b g : Nat) (s : Int) (xs : List Bool) (w : World) (hp : IsPage w pb b g s xs) :
    Calls Try.prog 51 #[.pointer (some ⟨pb, 0, none⟩)] w fun e w' => e = .returned (.bool (noneB xs)) ∧ w = w' := by
  have hc := hp.cell
  have hA := hp.bits
  clear hp
  go_enter Try.func51, Try.ntmps51
  go_wp2_with (go_at_call 65; refine (bnext_any _ _ 0 _ _ _ hA (by omega)).mono ?_; rintro e w' ⟨rfl, rfl⟩)
  go_ret
  exact ⟨rfl, rfl⟩
set_option maxHeartbeats 400000 in
theorem kfull_any (pb b g : Nat) (s : Int) (xs : List Bool) (w : World) (hp : IsPage w pb b g s xs) :
    Calls Try.prog 74 #[.pointer (some ⟨pb, 0, none⟩)] w fun e w' => e = .returned (.bool (allB xs)) ∧ w = w' := by
  have hc := hp.cell
  have hA := hp.bits
  clear hp
  go_enter Try.func74, Try.ntmps74
  go_wp2_with (go_at_call 65; refine (bnext_any _ _ 0 _ _ _ hA (by omega)).mono ?_; rintro e w' ⟨rfl, rfl⟩)
  go_ret
  exact ⟨rfl, rfl⟩

set_option maxHeartbeats 400000 in
theorem knew_no (n : Int) (w : World) (h : ¬ (0 ≤ n ∧ n < 5)) :
    Calls Try.prog 75 #[.int .i64 n] w fun e w' => e = .returned (.tuple #[.pointer none, .int .i64 1]) ∧ Keep [] w w' := by
  rcases (show n < 0 ∨ 0 ≤ n ∧ 5 ≤ n by omega) with h1 | ⟨h0, h1⟩
  all_goals
    go_enter Try.func75, Try.ntmps75
    go_wp2_with (go_at_call 58; refine (sizes_any _).mono ?_; rintro e w1 ⟨g, rfl, hr, hK, hg⟩)
    go_ret2
    exact ⟨rfl, hK⟩
/-- The blocks of a page of a class. -/
def wordsOf (c : Nat) : Int := sizesL[c]?.getD 0
def roomOf (c : Nat) : Nat := (64 / sizesL[c]?.getD 0).toNat
set_option maxHeartbeats 400000 in
theorem knew_ok (c : Nat) (w : World) (h : c < 5) :
    Calls Try.prog 75 #[.int .i64 c] w fun e w' => ∃ pb b g, e = .returned (.tuple #[.pointer (some ⟨pb, 0, none⟩), .int .i64 0]) ∧
      IsPage w' pb b g (wordsOf c) (offs (roomOf c)) ∧ Keep [] w w' ∧ w.heap.size ≤ pb ∧ w.heap.size ≤ b ∧ w.heap.size ≤ g := by
  obtain ⟨s, hs, m, hm, hq, hs0, hml⟩ : ∃ s : Nat, wordsOf c = s ∧ ∃ m : Nat, roomOf c = m ∧ (64 : Int) / s = m ∧ s ≠ 0 ∧ m ≤ 32 := by
    rcases (show c = 0 ∨ c = 1 ∨ c = 2 ∨ c = 3 ∨ c = 4 by omega) with rfl | rfl | rfl | rfl | rfl
    · exact ⟨2, rfl, 32, rfl, rfl, by omega, by omega⟩
    · exact ⟨4, rfl, 16, rfl, rfl, by omega, by omega⟩
    · exact ⟨8, rfl, 8, rfl, rfl, by omega, by omega⟩
    · exact ⟨16, rfl, 4, rfl, rfl, by omega, by omega⟩
    · exact ⟨32, rfl, 2, rfl, rfl, by omega, by omega⟩
  rw [hs, hm]
  have HS := (show Hid (sizesL[c]?.getD 0 = s) from hs)
  have hT : (64 : Int).tdiv s = m := by rw [Int.tdiv_eq_ediv_of_nonneg (by omega)]; exact hq
  have hd1 : decide ((c : Int) < 0) = false := by rw [decide_eq_false_iff_not]; omega
  have hd2 : decide (5 ≤ (c : Int)) = false := by rw [decide_eq_false_iff_not]; omega
  clear hs hm
  go_enter Try.func75, Try.ntmps75
  go_wp2_with (first | (go_at_call 58; refine (sizes_any _).mono ?_; rintro e w1 ⟨gs, rfl, hr, hK, hgs⟩; have hx := hr.cell (i := c) h; rw [HS.out] at hx) | (go_at_call 55; refine (bnew_ok m _ (by omega)).mono ?_; rintro e w2 ⟨b, g, rfl, hA, hK2, hb, hg⟩))
  have hsz := hK.size
  have hsz2 := hK2.size
  have hlt := hA.lt
  have hA1 := hA.keep (Keep.alloc [] w2 (.cells #[.pointer (some ⟨b, 0, none⟩), .int .i64 s] 110)) (by simp) (by simp)
  have hP1 := heap_alloc_new w2 (.cells #[.pointer (some ⟨b, 0, none⟩), .int .i64 s] 110)
  have hK3 := (hK.trans hK2).trans (Keep.alloc [] w2 (.cells #[.pointer (some ⟨b, 0, none⟩), .int .i64 s] 110))
  go_ret2
  exact ⟨_, b, g, rfl, ⟨by omega, by omega, hP1, hA1⟩, hK3, by omega, by omega, by omega⟩

set_option maxHeartbeats 400000 in
theorem ktake_nil (w : World) :
    Calls Try.prog 70 #[.pointer none] w fun e w' => e = .returned (.tuple #[.int .i64 0, .int .i64 2]) ∧ w = w' := by
  go_enter Try.func70, Try.ntmps70
  go_wp2
  go_ret2
  exact ⟨rfl, rfl⟩
set_option maxHeartbeats 400000 in
theorem kgive_nil (i : Int) (w : World) :
    Calls Try.prog 50 #[.pointer none, .int .i64 i] w fun e w' => e = .returned (.int .i64 2) ∧ w = w' := by
  go_enter Try.func50, Try.ntmps50
  go_wp2
  go_ret
  exact ⟨rfl, rfl⟩
set_option maxHeartbeats 400000 in
theorem kwords_nil (w : World) :
    Calls Try.prog 64 #[.pointer none] w fun e w' => e = .returned (.int .i64 0) ∧ w = w' := by
  go_enter Try.func64, Try.ntmps64
  go_wp2
  go_ret
  exact ⟨rfl, rfl⟩
set_option maxHeartbeats 400000 in
theorem kempty_nil (w : World) :
    Calls Try.prog 51 #[.pointer none] w fun e w' => e = .returned (.bool false) ∧ w = w' := by
  go_enter Try.func51, Try.ntmps51
  go_wp2
  go_ret
  exact ⟨rfl, rfl⟩
set_option maxHeartbeats 400000 in
theorem kfull_nil (w : World) :
    Calls Try.prog 74 #[.pointer none] w fun e w' => e = .returned (.bool false) ∧ w = w' := by
  go_enter Try.func74, Try.ntmps74
  go_wp2
  go_ret
  exact ⟨rfl, rfl⟩

set_option maxHeartbeats 400000 in
theorem ktake_no (pb b g : Nat) (s : Int) (xs : List Bool) (w : World) (hp : IsPage w pb b g s xs) (h : nextR xs 0 false = -1) :
    Calls Try.prog 70 #[.pointer (some ⟨pb, 0, none⟩)] w fun e w' => e = .returned (.tuple #[.int .i64 0, .int .i64 3]) ∧ w = w' := by
  have hc := hp.cell
  have hA := hp.bits
  have HR := (show Hid (nextR xs (0 : Int).toNat false = -1) from h)
  clear hp h
  go_enter Try.func70, Try.ntmps70
  go_wp2_with (go_at_call 65; refine (bnext_any _ _ 0 _ _ _ hA (by omega)).mono ?_; rw [HR.out]; rintro e w' ⟨rfl, rfl⟩)
  go_ret2
  exact ⟨rfl, rfl⟩
set_option maxHeartbeats 800000 in
theorem ktake_yes (pb b g j : Nat) (s : Int) (xs : List Bool) (w : World) (hp : IsPage w pb b g s xs) (h : nextR xs 0 false = j) (hl : j < xs.length) :
    Calls Try.prog 70 #[.pointer (some ⟨pb, 0, none⟩)] w fun e w' => e = .returned (.tuple #[.int .i64 j, .int .i64 0]) ∧ IsPage w' pb b g s (xs.set j true) ∧ Keep [g] w w' := by
  have hc := hp.cell
  have hA := hp.bits
  have HR := (show Hid (nextR xs (0 : Int).toNat false = j) from h)
  have hpd : decide ((j : Int) < 0) = false := by rw [decide_eq_false_iff_not]; omega
  have hlt := hp.lt
  clear h
  go_enter Try.func70, Try.ntmps70
  go_wp2_with (first | (go_at_call 65; refine (bnext_any _ _ 0 _ _ _ hA (by omega)).mono ?_; rw [HR.out]; rintro e w' ⟨rfl, rfl⟩) | (go_at_call 56; refine (bset_one b g j true xs _ hA hl).mono ?_; rintro e w3 ⟨rfl, hA3, hK3⟩; have hp3 := hp.other hK3 hA3))
  go_ret2
  exact ⟨rfl, hp3, hK3⟩
theorem ktake_any (pb b g : Nat) (s : Int) (xs : List Bool) (w : World) (hp : IsPage w pb b g s xs) :
    Calls Try.prog 70 #[.pointer (some ⟨pb, 0, none⟩)] w fun e w' => e = .returned (.tuple #[.int .i64 (tkN xs), .int .i64 (tkE xs)]) ∧ IsPage w' pb b g s (tkR xs) ∧ Keep [g] w w' := by
  rcases nextR_spec xs false _ 0 rfl with ⟨h1, _⟩ | ⟨j, h1, _, h2, _⟩
  · obtain ⟨e1, e2, e3⟩ := tk_no xs h1
    rw [e1, e2, e3]
    refine (ktake_no pb b g s xs w hp h1).mono ?_
    rintro e w' ⟨rfl, rfl⟩
    exact ⟨rfl, hp, Keep.refl _ _⟩
  · obtain ⟨e1, e2, e3⟩ := tk_yes xs j h1
    rw [e1, e2, e3]
    exact ktake_yes pb b g j s xs w hp h1 h2

set_option maxHeartbeats 400000 in
theorem kgive_no (pb b g : Nat) (i s : Int) (xs : List Bool) (w : World) (hp : IsPage w pb b g s xs) (h : hasR xs i = false) :
    Calls Try.prog 50 #[.pointer (some ⟨pb, 0, none⟩), .int .i64 i] w fun e w' => e = .returned (.int .i64 2) ∧ w = w' := by
  have hc := hp.cell
  have hA := hp.bits
  have HR := (show Hid (hasR xs i = false) from h)
  clear hp h
  go_enter Try.func50, Try.ntmps50
  go_wp2_with (go_at_call 63; refine (bhas_any _ _ _ _ _ hA).mono ?_; rw [HR.out]; rintro e w' ⟨rfl, rfl⟩)
  go_ret
  exact ⟨rfl, rfl⟩
set_option maxHeartbeats 800000 in
theorem kgive_yes (pb b g i : Nat) (s : Int) (xs : List Bool) (w : World) (hp : IsPage w pb b g s xs) (h : hasR xs i = true) :
    Calls Try.prog 50 #[.pointer (some ⟨pb, 0, none⟩), .int .i64 i] w fun e w' => e = .returned (.int .i64 0) ∧ IsPage w' pb b g s (xs.set i false) ∧ Keep [g] w w' := by
  have hc := hp.cell
  have hA := hp.bits
  have HR := (show Hid (hasR xs i = true) from h)
  have hi : i < xs.length := by have := has_in xs i h; omega
  have hlt := hp.lt
  clear h
  go_enter Try.func50, Try.ntmps50
  go_wp2_with (first | (go_at_call 63; refine (bhas_any _ _ _ _ _ hA).mono ?_; rw [HR.out]; rintro e w' ⟨rfl, rfl⟩) | (go_at_call 56; refine (bset_one b g i false xs _ hA hi).mono ?_; rintro e w3 ⟨rfl, hA3, hK3⟩; have hp3 := hp.other hK3 hA3))
  go_ret
  exact ⟨rfl, hp3, hK3⟩
theorem kgive_any (pb b g : Nat) (i s : Int) (xs : List Bool) (w : World) (hp : IsPage w pb b g s xs) :
    Calls Try.prog 50 #[.pointer (some ⟨pb, 0, none⟩), .int .i64 i] w fun e w' => e = .returned (.int .i64 (gvE xs i)) ∧ IsPage w' pb b g s (gvR xs i) ∧ Keep [g] w w' := by
  cases h : hasR xs i
  · obtain ⟨e1, e2⟩ := gv_no xs i h
    rw [e1, e2]
    refine (kgive_no pb b g i s xs w hp h).mono ?_
    rintro e w' ⟨rfl, rfl⟩
    exact ⟨rfl, hp, Keep.refl _ _⟩
  · obtain ⟨m, rfl⟩ := Int.eq_ofNat_of_zero_le (has_in xs i h).1
    obtain ⟨e1, e2⟩ := gv_yes xs m h
    rw [e1, e2]
    exact kgive_yes pb b g m s xs w hp h

end Go.Proofs.Ytdpaffnpedcmpab
