/-
  Contracts of what the statement calls, one text behind the other (Made15).
-/
import Derived.Test.YtjlbfojbgnhhbaaPart6

/-
  Made and awake of gloaminglaw15: finals of a heap with some objects of numbers, and a reference.
-/
namespace Go.Proofs.Ytjlbfojbgnhhbaa
open Go.RowKit

theorem GChain.aBd {n : Nat} {W : Nat → List Int} {K : Nat → List PK} {A : Nat → Nat} (h : GChain (n + 1) (kkF n) (ccF n) (llF n) W K A) (q : Nat) (hq : q ≤ n + 1) : inR (aL A q) := by
  intro i
  by_cases hi : i < q
  · rw [aL_get A q i hi]; have := h.os.bd i (by omega); omega
  · rw [List.getElem?_eq_none (by rw [aL_length]; omega)]; simp

set_option maxRecDepth 100000 in
set_option maxHeartbeats 6400000 in
theorem made15 (n : Nat) {W : Nat → List Int} {K : Nat → List PK} {A : Nat → Nat} (hC : GChain (n + 1) (kkF n) (ccF n) (llF n) W K A) (hn : n ≤ 20) (w : World) :
    Calls Try.prog 6 #[.int .i64 n] w fun e w' => ∃ hb fb la lc, e = .returned (.tuple #[.pointer (some ⟨hb, 0, none⟩), .pointer (some ⟨fb, 0, none⟩), .slice la (n + 1) lc]) ∧ n + 1 ≤ lc ∧ Has w [] ((pfinA fb hb (W (n + 1)) (K (n + 1)) [] [] []).star (listA la (aL A (n + 1)))) w' := by
  obtain ⟨i0, hi, hz0, hz1, hz2⟩ := info_parts Try.infoInt
  have hI : Hid (Try.prog.info? 3 = some i0 ∧ i0.zero = some (.int .i64 0) ∧ i0.size = 1 ∧ i0.bytes = 8) := ⟨hi, hz0, hz1, hz2⟩
  clear hi hz0 hz1 hz2
  have HC := hid hC
  clear hC
  go_enter Try.func6, Try.ntmps6
  go_wp2_with fail
  refine (onew_has 40 _ (by omega) (by omega)).mono ?_
  rintro e w1 ⟨hb, rfl, hH⟩
  have HH := (show Hid (Has w [] (heapA hb (zeros (64 * 40)) (freshK 40) []) w1) from hH)
  clear hH
  go_wp2_with (first | (go_at_call 21; refine (owhole _ HH.out).mono ?_; rintro e w' ⟨rfl, rfl⟩) | (go_at_call 7; refine (err_any _ _).mono ?_; rintro e w' ⟨rfl, rfl⟩))
  refine (pfnew _ HH.out).mono ?_
  rintro e w2 ⟨fb, rfl, hP⟩
  have HX0 := (show Hid (Has w [] ((pfinA fb hb (W 0) (K 0) [] [] []).star (ownA 3 none 0 0 (aL A 0))) w2) from by
    show Has _ _ _ _
    rw [HC.out.w0, HC.out.k0]
    exact Has.ownNew 3 hP)
  clear HH hP
  go_wp2_with fail
  go_loopw [8, 9] (fun l i wr => ∃ (j : Nat) (la : Option Addr) (lc : Nat), l = .slice la j lc ∧ i = .int .i64 j ∧ j ≤ n + 1 ∧ Hid (Has w [] ((pfinA fb hb (W j) (K j) [] [] []).star (ownA 3 la j lc (aL A j))) wr)) (fun _ i _ => n + 1 - (intOf i).toNat)
  case atStart => exact ⟨0, none, 0, rfl, rfl, by omega, HX0⟩
  case round =>
    obtain ⟨j, la, lc, rfl, rfl, hj, HX⟩ := hrel
    obtain ⟨w3, rfl⟩ : ∃ w3, w3 = wr := ⟨_, rfl⟩
    clear HX0
    by_cases hlt : j < n + 1
    · have hd : decide (j ≤ n) = true := decide_eq_true (by omega)
      have hjn : j ≤ n := by omega
      have HT := hid (HC.out.step j (by omega))
      have hab := HC.out.os.bd j (by omega)
      obtain ⟨a, ha⟩ : ∃ a, A j = a := ⟨_, rfl⟩
      rw [ha] at HT hab
      have HL := (show Hid (aL A (j + 1) = aL A j ++ [(a : Int)]) from by show _ = _; rw [aL_snoc, ha])
      clear ha
      by_cases hj2 : j = n
      · have HT2 := (show Hid (MakeT (K j) (W j) [] 4 2 5 false a 0 (W (j + 1)) (K (j + 1))) from by
          have h := HT.out
          unfold kkF ccF llF at h
          rw [if_pos hj2, if_pos hj2, if_pos hj2] at h
          exact h)
        clear HT
        subst hj2
        go_wp2_with (first | (go_at_call 22; refine (has_left (HX.out.keep0 (Keep.alloc [] w3 _)) (fun F hF => has_pfheap hF (fun F hF => omake 4 2 5 a 0 false _ _ _ hF HT2.out))).mono ?_; rintro e w4 ⟨rfl, hX3⟩; have HX3 := hid hX3; clear hX3) | (go_at_call 7; refine (err_any _ _).mono ?_; rintro e w' ⟨rfl, rfl⟩) | (at_builtin; refine wpList_append_lies _ rfl (.tmp 48) (.tmp 50) 25 rfl 0 3 i0 (.int .i64 0) 1 8 Try.underlying25 hI.out.1 hI.out.2.1 hI.out.2.2.1 hI.out.2.2.2 rfl (by decide) _ j (ints (aL A j)) rfl (HX3.out.snd.own.alloc _) ⟨w4.heap.size, 0, none⟩ 1 1 (ints [(a : Int)]) rfl rfl (one_cell _ _ _) (ints_one _) (by omega) (by unfold maxLen; omega) (by omega) (by omega) (w4.heap.size + 1) (by simp) ?_; intro ga ca7 w7 hown7 hgrow7 hblk7 hlt7; rw [ints_app] at hown7; have HX7 := (show Hid (Has w [] ((pfinA fb hb (W (j + 1)) (K (j + 1)) [] [] []).star (ownA 3 (some ⟨ga, 0, none⟩) (j + 1) ca7 (aL A (j + 1)))) w7) from by show Has _ _ _ _; rw [HL.out]; exact (HX3.out.keep0 (Keep.alloc [] _ _)).ownMore hown7 hgrow7 hblk7 (by simp) hlt7); clear hown7 hgrow7 hblk7 hlt7))
        go_roundw
        case rel => exact ⟨j + 1, some ⟨ga, 0, none⟩, ca7, by rfl, by go_num, by omega, HX7⟩
        case measure => simp [intOf]
      · have HT2 := (show Hid (MakeT (K j) (W j) [] 3 0 1 false a 0 (W (j + 1)) (K (j + 1))) from by
          have h := HT.out
          unfold kkF ccF llF at h
          rw [if_neg hj2, if_neg hj2, if_neg hj2] at h
          exact h)
        have hd2 : ((j : Int) == (n : Int)) = false := by rw [beq_eq_false_iff_ne]; omega
        clear HT
        go_wp2_with (first | (go_at_call 22; refine (has_left (HX.out.keep0 (Keep.alloc [] w3 _)) (fun F hF => has_pfheap hF (fun F hF => omake 3 0 1 a 0 false _ _ _ hF HT2.out))).mono ?_; rintro e w4 ⟨rfl, hX3⟩; have HX3 := hid hX3; clear hX3) | (go_at_call 7; refine (err_any _ _).mono ?_; rintro e w' ⟨rfl, rfl⟩) | (at_builtin; refine wpList_append_lies _ rfl (.tmp 48) (.tmp 50) 25 rfl 0 3 i0 (.int .i64 0) 1 8 Try.underlying25 hI.out.1 hI.out.2.1 hI.out.2.2.1 hI.out.2.2.2 rfl (by decide) _ j (ints (aL A j)) rfl (HX3.out.snd.own.alloc _) ⟨w4.heap.size, 0, none⟩ 1 1 (ints [(a : Int)]) rfl rfl (one_cell _ _ _) (ints_one _) (by omega) (by unfold maxLen; omega) (by omega) (by omega) (w4.heap.size + 1) (by simp) ?_; intro ga ca7 w7 hown7 hgrow7 hblk7 hlt7; rw [ints_app] at hown7; have HX7 := (show Hid (Has w [] ((pfinA fb hb (W (j + 1)) (K (j + 1)) [] [] []).star (ownA 3 (some ⟨ga, 0, none⟩) (j + 1) ca7 (aL A (j + 1)))) w7) from by show Has _ _ _ _; rw [HL.out]; exact (HX3.out.keep0 (Keep.alloc [] _ _)).ownMore hown7 hgrow7 hblk7 (by simp) hlt7); clear hown7 hgrow7 hblk7 hlt7))
        go_roundw
        case rel => exact ⟨j + 1, some ⟨ga, 0, none⟩, ca7, by rfl, by go_num, by omega, HX7⟩
        case measure => simp [intOf]; omega
    · obtain rfl : j = n + 1 := by omega
      have hd : decide (n + 1 ≤ n) = false := decide_eq_false (by omega)
      have HX1 := (show Hid (Has w [] ((pfinA fb hb (W (n + 1)) (K (n + 1)) [] [] []).star (listA la (aL A (n + 1)))) w3) from (HX.out.comm.map (fun F g => by
        obtain ⟨F1, F2, hF, h1, h2, hd⟩ := g
        exact ⟨F1, F2, hF, ⟨h1.1, (own_at h1.2.1 (HC.out.aBd (n + 1) (Nat.le_refl _))).1, h1.2.2⟩, h2, hd⟩)).comm)
      have HLC := (show Hid (n + 1 ≤ lc) from ((own_mid HX.out.snd.own).ints (HC.out.aBd (n + 1) (Nat.le_refl _))).2.2.2)
      clear HX hlt
      go_wp2_with fail
      go_ret3
      exact ⟨hb, fb, la, lc, rfl, HLC.out, HX1.out⟩

set_option maxRecDepth 100000 in
set_option maxHeartbeats 3200000 in
theorem awake15_any (w : World) :
    Calls Try.prog 16 #[] w fun e w' => e = .returned (.bool true) ∧ Keep [] w w' := by
  obtain ⟨W, K, A, hC⟩ := gchain_ex (kkF 1) (ccF 1) (llF 1) (headF 1) 2 (by omega)
  have hb0 := hC.os.bd 0 (by omega)
  obtain ⟨ws', hT, _⟩ := hC.os.await 0 (by omega) rfl
  obtain ⟨a, ha⟩ : ∃ a, A 0 = a := ⟨_, rfl⟩
  rw [ha] at hT hb0
  have HC := hid hC
  have HT := hid hT
  have HA0 := hid ha
  clear hC hT ha
  go_enter Try.func16, Try.ntmps16
  go_wp2_with fail
  refine (made15 1 HC.out (by omega) _).mono ?_
  rintro e w1 ⟨hb, fb, la, lc, rfl, _, hX⟩
  have HX := hid hX
  obtain ⟨lb, lo, rfl, hlb, hcs⟩ := HX.out.snd.list.cells (by rw [aL_length]; omega)
  have hc0 := hcs 0 (by rw [aL_length]; omega)
  rw [aL_get A (1 + 1) 0 (by omega), HA0.out, Nat.add_zero] at hc0
  clear hcs hX
  go_wp2_with fail
  refine (has_left HX.out (fun F hF => pftake 0 0 1 [] _ hF (.no (.inr (by simp))) ⟨by omega, by omega⟩ (by simp))).mono ?_
  rintro e w2 ⟨rfl, hX2⟩
  have HX2 := hid hX2
  obtain ⟨lb', lo', ee, hlb2, hcs2⟩ := HX2.out.snd.list.cells (by rw [aL_length]; omega)
  cases ee
  have hc2 := hcs2 0 (by rw [aL_length]; omega)
  rw [aL_get A (1 + 1) 0 (by omega), HA0.out, Nat.add_zero] at hc2
  clear hX2 HX hc0 hcs2
  go_wp2_with fail
  refine (has_left HX2.out (fun F hF => pfawait a 0 ws' _ hF HT.out ⟨by omega, by omega⟩ (by simp))).mono ?_
  rintro e w3 ⟨rfl, hX3⟩
  have HX3 := hid hX3
  clear hX3 HX2 hc2
  go_wp2_with (first | (go_at_call 7; refine (err_any _ _).mono ?_; rintro e w' ⟨rfl, rfl⟩) | (go_at_call 10; refine (pffinals _ HX3.out.fst (by simp [awaitL])).mono ?_; rintro e w4 ⟨v4, m4, rfl, hown4, hK4⟩; obtain ⟨la4, lc4, rfl, _, _, hX4⟩ := HX3.out.listed2 hK4 hown4 HX3.out.fst.pfin_in.1; rw [show (awaitL 0 [] (a : Int)).length = 1 from rfl]))
  go_ret
  exact ⟨rfl, hX4.K⟩

def hdO (k c l : Int) (f : Bool) : Obj := .cells #[.int .i64 k, .int .i64 c, .int .i64 l, .bool f] 43 (0, 0)
def oneO (a : Int) : Obj := .cells #[.int .i64 a] 3 (0, 0)
theorem ints_block {R : Asn} {b : Nat} {a : Int} (ha : inI a) : ∀ (w : World) (F : List Nat), (R.star (blockA b (oneO a))).at' w F → IntsAt w (some ⟨b, 0, none⟩) [a] := by
  rintro w F ⟨F1, F2, _, _, h2, _⟩
  exact IntsAt.oneB h2.2 ha.1 ha.2
theorem Has.hd {w0 w : World} {F0 : List Nat} {b : Nat} {k c l : Int} {f : Bool} (h : Has w0 F0 (blockA b (hdO k c l f)) w) : w.heap[b]? = some (.cells #[.int .i64 k, .int .i64 c, .int .i64 l, .bool f] 43 (0, 0)) := h.fact (fun _ h => h.2)

def twoO (a b : Int) : Obj := .cells #[.int .i64 a, .int .i64 b] 3 (0, 0)
theorem ints_block2 {R : Asn} {b : Nat} {x y : Int} (hx : inI x) (hy : inI y) : ∀ (w : World) (F : List Nat), (R.star (blockA b (twoO x y))).at' w F → IntsAt w (some ⟨b, 0, none⟩) [x, y] := by
  rintro w F ⟨F1, F2, _, _, h2, _⟩
  have h := h2.2
  unfold twoO at h
  refine ⟨fun _ => ⟨b, 0, rfl, lt_of_block h, fun i hi => ?_⟩, fun i => ?_, fun i => ?_⟩
  · rcases (show i = 0 ∨ i = 1 by simp at hi; omega) with rfl | rfl
    · simp [World.cell?, h]
    · simp [World.cell?, h]
  · rcases (show i = 0 ∨ i = 1 ∨ 2 ≤ i by omega) with rfl | rfl | h
    · simpa using hx.1
    · simpa using hy.1
    · rw [List.getElem?_eq_none (by simpa using h)]; simp
  · rcases (show i = 0 ∨ i = 1 ∨ 2 ≤ i by omega) with rfl | rfl | h
    · simpa using hx.2
    · simpa using hy.2
    · rw [List.getElem?_eq_none (by simpa using h)]; simp

end Go.Proofs.Ytjlbfojbgnhhbaa
