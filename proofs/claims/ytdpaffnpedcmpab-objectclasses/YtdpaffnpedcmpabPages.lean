/-
  What each call of package pages does, said of Pages in memory: its block, the Bits' block, the block of its places, its places.
-/
import Derived.Test.YtdpaffnpedcmpabBits
import Derived.Test.YtdpaffnpedcmpabPuts
import Derived.Deep.RegionHeld3
namespace Go.Proofs.Ytdpaffnpedcmpab
open Go.RowKit

theorem Try.infoIntP : (Try.prog.info? 3).map (fun i => (i.zero, i.size, i.bytes)) = some (some (.int .i64 0), 1, 8) := by kernel_rfl

/-- Block pb is Pages whose Bits is block b, whose places xs lie in block g. -/
structure IsPages (w : World) (pb b g : Nat) (xs : List Bool) : Prop where
  ne1 : pb ≠ b
  ne2 : pb ≠ g
  head : w.heap[pb]? = some (.cells #[.pointer (some ⟨b, 0, none⟩)] 105 (0, 0))
  bits : IsBits w b g xs

theorem IsPages.cell {w : World} {pb b g : Nat} {xs : List Bool} (h : IsPages w pb b g xs) : w.cell? ⟨pb, 0, none⟩ = some (.pointer (some ⟨b, 0, none⟩)) := cell_of_one h.head
theorem IsPages.keep {S : List Nat} {w w' : World} {pb b g : Nat} {xs : List Bool} (h : IsPages w pb b g xs) (k : Keep S w w') (hp : pb ∉ S) (hb : b ∉ S) (hg : g ∉ S) : IsPages w' pb b g xs :=
  ⟨h.ne1, h.ne2, k.blk h.head hp, h.bits.keep k hb hg⟩
theorem IsPages.other {w w' : World} {pb b g : Nat} {xs ys : List Bool} (h : IsPages w pb b g xs) (k : Keep [g] w w') (r : IsBits w' b g ys) : IsPages w' pb b g ys :=
  ⟨h.ne1, h.ne2, k.blk h.head (by simpa using h.ne2), r⟩
theorem IsPages.lt {w : World} {pb b g : Nat} {xs : List Bool} (h : IsPages w pb b g xs) : pb < w.heap.size ∧ b < w.heap.size ∧ g < w.heap.size := ⟨lt_of_block h.head, h.bits.lt⟩
theorem IsPages.drew {w : World} {pb b g : Nat} {xs : List Bool} (h : IsPages w pb b g xs) : IsPages w.drew pb b g xs := h.keep (Keep.drew [] w) (by simp) (by simp) (by simp)

theorem bset_yes' (b g c ln : Nat) (v : Bool) (xs : List Bool) (ao : Option Addr) (L : List Int) (w : World) (hln : L.length = ln) (ha : IsBits w b g xs) (hL : IntsAt w ao L) (ho : 0 < L.length → Off ao [g]) (hl : ln ≤ 9223372036854775807) (hf : fitsB xs.length L = true) :
    Calls Try.prog 56 #[.pointer (some ⟨b, 0, none⟩), .bool v, .slice ao ln c] w fun e w' => e = .returned (.int .i64 0) ∧ IsBits w' b g (setAll xs v L) ∧ Keep [g] w w' := by
  subst hln; exact bset_yes b g c v xs ao L w ha hL ho hl hf

set_option maxHeartbeats 400000 in
theorem pnew_no (n : Int) (w : World) (h : ¬ (1 ≤ n ∧ n ≤ 256)) :
    Calls Try.prog 40 #[.int .i64 n] w fun e w' => e = .returned (.tuple #[.pointer none, .int .i64 1]) ∧ w = w' := by
  by_cases h1 : n < 1
  · go_enter Try.func40, Try.ntmps40
    go_wp2
    go_ret2
    exact ⟨rfl, rfl⟩
  · have h2 : 256 < n := by omega
    go_enter Try.func40, Try.ntmps40
    go_wp2
    go_ret2
    exact ⟨rfl, rfl⟩
/-- What New makes: the first page is taken. -/
def fresh (n : Nat) : List Bool := (offs n).set 0 true
theorem fresh_length (n : Nat) : (fresh n).length = n := by simp [fresh, offs_length]
theorem fresh_get (n t : Nat) (h : 1 ≤ n) : (fresh n)[t]?.getD false = decide (t = 0) := by
  unfold fresh
  by_cases e : t = 0
  · subst e; rw [bset_same _ _ _ (by rw [offs_length]; omega)]; rfl
  · rw [bset_other _ _ _ _ (fun x => e x.symm), offs_get]; simp [e]
theorem fresh_run (n k : Nat) (h1 : 1 ≤ k) (h : k < n) : runR (fresh n) 0 k = 1 := by
  refine runR_is (fresh n) 0 k 1 h1 (by omega) ⟨by rw [fresh_length]; omega, fun t a b => ?_⟩ (fun s a b c => ?_)
  · rw [fresh_get n t (by omega)]; simp; omega
  · have := c.2 s (by omega) (by omega)
    rw [fresh_get n s (by omega)] at this; simp at this; omega
set_option maxHeartbeats 400000 in
theorem pnew_ok (n : Nat) (w : World) (h1 : 1 ≤ n) (h2 : n ≤ 256) :
    Calls Try.prog 40 #[.int .i64 n] w fun e w' => ∃ pb b g, e = .returned (.tuple #[.pointer (some ⟨pb, 0, none⟩), .int .i64 0]) ∧
      IsPages w' pb b g (fresh n) ∧ Keep [] w w' ∧ w.heap.size ≤ pb ∧ w.heap.size ≤ b ∧ w.heap.size ≤ g := by
  have hd1 : decide ((n : Int) < 1) = false := by rw [decide_eq_false_iff_not]; omega
  have hd2 : decide (256 < (n : Int)) = false := by rw [decide_eq_false_iff_not]; omega
  go_enter Try.func40, Try.ntmps40
  go_wp2_with (go_at_call 55; refine (bnew_ok _ _ (by omega)).mono ?_; rintro e w1 ⟨b, g, rfl, hA, hK, hb, hg⟩)
  have hA1 := hA.keep (Keep.alloc [] w1 (.cells #[.pointer (some ⟨b, 0, none⟩)] 105)) (by simp) (by simp)
  have hK1 : Keep [] w (w1.alloc (.cells #[.pointer (some ⟨b, 0, none⟩)] 105)) := hK.trans (Keep.alloc [] _ _)
  have hP1 := heap_alloc_new w1 (.cells #[.pointer (some ⟨b, 0, none⟩)] 105)
  have hz : (w1.alloc (.cells #[.pointer (some ⟨b, 0, none⟩)] 105)).heap.size = w1.heap.size + 1 := by simp
  have hlt := hA.lt
  have hsz := hK.size
  clear hA hK
  generalize w1.alloc (.cells #[.pointer (some ⟨b, 0, none⟩)] 105) = w2 at *
  refine (bset_one' b g 0 _ true _ w2 hz hA1 (by rw [offs_length]; omega)).mono ?_
  rintro e w3 ⟨rfl, hA3, hK3⟩
  have hP3 := hK3.blk hP1 (by simp; omega)
  have hK4 : Keep [] w w3 := (hK1.mono (T := [g]) (by simp)).trans hK3 |>.drop (by simp; omega)
  have HP : Hid (IsPages w3 w1.heap.size b g (fresh n)) := ⟨by omega, by omega, hP3, hA3⟩
  clear hP3 hA3 hP1 hA1
  go_wp2
  go_ret2
  exact ⟨_, b, g, rfl, HP.out, hK4, hsz, hb, hg⟩

set_option maxHeartbeats 800000 in
/-- The list of k places from a on: a new one. -/
theorem prow_any (a k : Nat) (w : World) (h1 : a ≤ 16384) (h2 : k ≤ 16384) :
    Calls Try.prog 67 #[.int .i64 a, .int .i64 k] w fun e w' => ∃ z, e = .returned (.slice (some ⟨z, 0, none⟩) k k) ∧ IntsAt w' (some ⟨z, 0, none⟩) (rowL a k) ∧ Keep [] w w' ∧ w.heap.size ≤ z := by
  have hmk : ∀ w, (Instr.makeSlice 46 (.int .i64 (k : Int)) (.int .i64 (k : Int))).run Try.prog w = .ok (.slice (some ⟨w.heap.size, 0, none⟩) k k) (w.alloc (.cells (madeCells #[.int .i64 0] k) 3)) :=
    fun w => run_make_row' (P := Try.prog) 46 3 (.int .i64 0) 8 Try.underlying46 Try.infoIntP rfl .i64 .i64 k (by omega) (by omega) w
  go_enter Try.func67, Try.ntmps67
  go_wp2
  have hR := Row.made w 3 k
  have hK := Keep.alloc [] w (.cells (madeCells #[.int .i64 0] k) 3)
  have hz : w.heap.size < (w.alloc (.cells (madeCells #[.int .i64 0] k) 3)).heap.size := by simp
  clear hmk
  generalize w.alloc (.cells (madeCells #[.int .i64 0] k) 3) = w1 at *
  obtain ⟨z, hzz⟩ : ∃ z, w.heap.size = z := ⟨_, rfl⟩
  rw [hzz] at hR hz ⊢
  go_loopw [11] (fun i wr => ∃ (j : Nat) (L : List Int), i = .int .i64 j ∧ j ≤ k ∧ Hid (L.length = k) ∧ Hid (∀ t, t < j → L[t]?.getD 0 = ((a + t : Nat) : Int)) ∧ Row wr 3 z L ∧ Keep [z] w wr) (fun i _ => k - (intOf i).toNat)
  case atStart => exact ⟨0, _, rfl, by omega, zeros_length k, fun t h => by omega, hR, hK.mono (by simp)⟩
  case round =>
    obtain ⟨j, L, rfl, hj, HL, HJ, hR2, hK2⟩ := hrel
    clear hR hK
    by_cases hlt : j < k
    · have y1 := hR2.cell (i := j) (by rw [HL.out]; exact hlt)
      have y2 := hR2.free j
      have HR := (show Hid (Row (wr.setCell ⟨z, j, none⟩ (.int .i64 ((a : Int) + j))) 3 z (L.set j ((a : Int) + j))) from hR2.put j _)
      have hK3 : Keep [z] w (wr.setCell ⟨z, j, none⟩ (.int .i64 ((a : Int) + j))) := hK2.trans (Keep.setCell _ _ (by simp))
      clear hR2 hK2
      go_wp2
      go_roundw
      case rel =>
        refine ⟨j + 1, L.set j ((a : Int) + j), by go_num, by omega, by show _ = _; rw [List.length_set]; exact HL.out, fun t ht => ?_, HR.out, hK3⟩
        by_cases e : t = j
        · subst e; rw [set_get_same _ _ _ (by rw [HL.out]; exact hlt)]; omega
        · rw [set_get_other _ _ _ _ (fun e' => e e'.symm)]; exact HJ.out t (by omega)
      case measure => simp [intOf]; omega
    · obtain rfl : j = k := by omega
      have hLe : L = rowL a j := eq_of_getD (by rw [HL.out, rowL_length]) (fun t => by
        by_cases ht : t < j
        · rw [HJ.out t ht, rowL_get a j t ht]
        · rw [List.getElem?_eq_none (by rw [HL.out]; omega), List.getElem?_eq_none (by rw [rowL_length]; omega)])
      rw [hLe] at hR2
      have HR := (show Hid (Row wr 3 z (rowL a j)) from hR2)
      clear hR2 hLe
      go_wp2
      go_ret
      refine ⟨z, rfl, ⟨fun _ => ⟨z, 0, rfl, HR.out.lt, fun i hi => ?_⟩, fun i => ?_, fun i => ?_⟩, hK2.drop (by simp; omega), by omega⟩
      · rw [Nat.zero_add]; exact HR.out.cell hi
      · by_cases hi : i < j
        · rw [rowL_get a j i hi]; omega
        · rw [List.getElem?_eq_none (by rw [rowL_length]; omega)]; simp
      · by_cases hi : i < j
        · rw [rowL_get a j i hi]; omega
        · rw [List.getElem?_eq_none (by rw [rowL_length]; omega)]; simp

set_option maxHeartbeats 800000 in
theorem ptaken_any (pb b g a k : Nat) (xs : List Bool) (w : World) (hp : IsPages w pb b g xs) (ha1 : 1 ≤ a) (ha : (a : Int) ≤ 9223372036854775807) (hk1 : 1 ≤ k) (hk : (k : Int) ≤ 9223372036854775807) :
    Calls Try.prog 66 #[.pointer (some ⟨pb, 0, none⟩), .int .i64 a, .int .i64 k] w fun e w' => e = .returned (.bool (fullB xs a k)) ∧ w = w' := by
  have hc := hp.cell
  have hA := hp.bits
  have hn := hA.len
  generalize hN : fullB xs a k = r
  have HN := (show Hid (fullB xs a k = r) from hN)
  clear hN hp
  go_enter Try.func66, Try.ntmps66
  go_wp2
  go_loop [9] (fun i => ∃ j : Nat, i = .int .i64 j ∧ j ≤ k ∧ (j = 0 ∨ a + j ≤ xs.length) ∧ Hid (∀ t, a ≤ t → t < a + j → t < xs.length ∧ xs[t]?.getD false = true)) (fun i => k - (intOf i).toNat)
  case atStart => exact ⟨0, rfl, by omega, by omega, fun t h => by omega⟩
  case round =>
    obtain ⟨j, rfl, hj, hjl, HJ⟩ := hrel
    by_cases hlt : j < k
    · have hs : ((a : Int) + j) = ((a + j : Nat) : Int) := by omega
      cases hv : hasR xs ((a : Int) + j)
      · have HF := (show Hid (false = r) from by
          show false = r
          rw [← HN.out, fullB_no xs a k (a + j) (by omega) (by omega)]
          rcases Nat.lt_or_ge (a + j) xs.length with h | h
          · right; rw [hs, has_nat xs _ h] at hv; exact hv
          · left; exact h)
        have HV := (show Hid (hasR xs ((a : Int) + j) = false) from hv)
        clear hv HJ hs
        go_wp2_with (go_at_call 63; refine (bhas_any _ _ _ _ _ hA).mono ?_; rw [HV.out]; rintro e w' ⟨rfl, rfl⟩)
        go_ret
        exact ⟨by rw [← HF.out]; rfl, rfl⟩
      · have hl2 : a + j < xs.length := by
          rcases Nat.lt_or_ge (a + j) xs.length with h | h
          · exact h
          · rw [hs] at hv; unfold hasR at hv; rw [isPl_false (by omega)] at hv; cases hv
        have HK := (show Hid (∀ t, a ≤ t → t < a + (j + 1) → t < xs.length ∧ xs[t]?.getD false = true) from fun t p q => by
          by_cases e : t = a + j
          · subst e; rw [hs, has_nat xs _ hl2] at hv; exact ⟨hl2, hv⟩
          · exact HJ.out t p (by omega))
        have HV := (show Hid (hasR xs ((a : Int) + j) = true) from hv)
        clear hv HJ hs
        go_wp2_with (go_at_call 63; refine (bhas_any _ _ _ _ _ hA).mono ?_; rw [HV.out]; rintro e w' ⟨rfl, rfl⟩)
        go_round
        case rel => exact ⟨j + 1, by go_num, by omega, by omega, HK⟩
        case measure => simp [intOf]; omega
    · obtain rfl : j = k := by omega
      have HF := (show Hid (true = r) from by
        show true = r
        rw [← HN.out]; exact ((fullB_iff xs a j hk1).2 HJ.out).symm)
      go_wp2
      go_ret
      exact ⟨by rw [← HF.out]; rfl, rfl⟩

end Go.Proofs.Ytdpaffnpedcmpab
