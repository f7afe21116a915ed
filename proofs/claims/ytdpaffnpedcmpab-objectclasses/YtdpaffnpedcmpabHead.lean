/-
  Package head, and the document's own words on heads: what their calls answer.
-/
import Derived.Test.YtdpaffnpedcmpabRows
import Derived.Test.YtdpaffnpedcmpabBools
import Derived.Deep.RegionHeld3
import Derived.Deep.RegionLaw
namespace Go.Proofs.Ytdpaffnpedcmpab
open Go.RowKit

/-- A head that may be. -/
def mayH (k c l : Int) (f : Bool) : Bool :=
  decide (0 ≤ l ∧ l ≤ 1023) && ((decide (k = 1) && decide (1 ≤ c ∧ c ≤ 256)) || (decide (k = 2 ∨ k = 3) && decide (c = 0)) || (decide (k = 4) && decide (1 ≤ c ∧ c ≤ 3) && decide (l = 5) && !f))
/-- Its word. -/
def putH (k c l : Int) (f : Bool) : Int := k + 16 * c + 65536 * l + (if f then 8 else 0)

def inB (x lo hi : Int) : Bool := decide (lo ≤ x ∧ x ≤ hi)
theorem inB_yes {x lo hi : Int} (h1 : lo ≤ x) (h2 : x ≤ hi) : inB x lo hi = true := decide_eq_true ⟨h1, h2⟩
theorem inB_no {x lo hi : Int} (h : ¬ (lo ≤ x ∧ x ≤ hi)) : inB x lo hi = false := decide_eq_false h

set_option maxRecDepth 100000 in
set_option maxHeartbeats 800000 in
theorem within2 (g : Nat) (x1 l1 h1 x2 l2 h2 : Int) (w : World) (hg : w.heap[g]? = some (.cells #[.int .i64 x1, .int .i64 l1, .int .i64 h1, .int .i64 x2, .int .i64 l2, .int .i64 h2] 92 (0, 0))) :
    Calls Try.prog 41 #[.slice (some ⟨g, 0, none⟩) 2 2] w fun e w' => e = .returned (.bool (inB x1 l1 h1 && inB x2 l2 h2)) ∧ Keep [] w w' := by
  go_enter Try.func41, Try.ntmps41
  go_wp2
  go_loopw [7] (fun i wr => ∃ j : Nat, i = .int .i64 j ∧ j ≤ 2 ∧ (0 < j → inB x1 l1 h1 = true) ∧ (1 < j → inB x2 l2 h2 = true) ∧ Keep [] w wr) (fun i _ => 2 - (intOf i).toNat)
  case atStart => exact ⟨0, rfl, by omega, fun h => by omega, fun h => by omega, Keep.refl _ _⟩
  case round =>
    obtain ⟨j, rfl, hj, hi1, hi2, hK⟩ := hrel
    have hx := hK.blk hg (by simp)
    rcases (show j = 0 ∨ j = 1 ∨ j = 2 from by omega) with rfl | rfl | rfl
    · have c0 : wr.cell? ⟨g, 0, none⟩ = some (.int .i64 x1) := by simp [World.cell?, hx]
      have c1 : wr.cell? ⟨g, 1, none⟩ = some (.int .i64 l1) := by simp [World.cell?, hx]
      have c2 : wr.cell? ⟨g, 2, none⟩ = some (.int .i64 h1) := by simp [World.cell?, hx]
      clear hi1 hi2 hx hg
      by_cases q1 : x1 < l1
      · have HM := (show Hid (inB x1 l1 h1 = false) from inB_no (by omega))
        go_wp2_with fail
        go_ret
        rw [HM.out]; exact ⟨by simp, hK.trans (Keep.alloc _ _ _)⟩
      · have q1d : decide (x1 < l1) = false := decide_eq_false q1
        by_cases q2 : h1 < x1
        · have HM := (show Hid (inB x1 l1 h1 = false) from inB_no (by omega))
          go_wp2_with fail
          go_ret
          rw [HM.out]; exact ⟨by simp, hK.trans (Keep.alloc _ _ _)⟩
        · have HM := (show Hid (inB x1 l1 h1 = true) from inB_yes (by omega) (by omega))
          have q2d : decide (h1 < x1) = false := decide_eq_false q2
          go_wp2_with fail
          go_roundw
          case rel => exact ⟨1, by go_num, by omega, fun _ => HM.out, fun h => by omega, hK.trans (Keep.alloc _ _ _)⟩
          case measure => simp [intOf]
    · have HI := (show Hid (inB x1 l1 h1 = true) from hi1 (by omega))
      have c0 : wr.cell? ⟨g, 3, none⟩ = some (.int .i64 x2) := by simp [World.cell?, hx]
      have c1 : wr.cell? ⟨g, 4, none⟩ = some (.int .i64 l2) := by simp [World.cell?, hx]
      have c2 : wr.cell? ⟨g, 5, none⟩ = some (.int .i64 h2) := by simp [World.cell?, hx]
      clear hi1 hi2 hx hg
      by_cases q1 : x2 < l2
      · have HM := (show Hid (inB x2 l2 h2 = false) from inB_no (by omega))
        go_wp2_with fail
        go_ret
        rw [HM.out]; exact ⟨by simp, hK.trans (Keep.alloc _ _ _)⟩
      · have q1d : decide (x2 < l2) = false := decide_eq_false q1
        by_cases q2 : h2 < x2
        · have HM := (show Hid (inB x2 l2 h2 = false) from inB_no (by omega))
          go_wp2_with fail
          go_ret
          rw [HM.out]; exact ⟨by simp, hK.trans (Keep.alloc _ _ _)⟩
        · have HM := (show Hid (inB x2 l2 h2 = true) from inB_yes (by omega) (by omega))
          have q2d : decide (h2 < x2) = false := decide_eq_false q2
          go_wp2_with fail
          go_roundw
          case rel => exact ⟨2, by go_num, by omega, fun _ => HI.out, fun _ => HM.out, hK.trans (Keep.alloc _ _ _)⟩
          case measure => simp [intOf]
    · have HI := (show Hid (inB x1 l1 h1 = true) from hi1 (by omega))
      have HJ := (show Hid (inB x2 l2 h2 = true) from hi2 (by omega))
      clear hi1 hi2 hx hg
      go_wp2
      go_ret
      rw [HI.out, HJ.out]; exact ⟨rfl, hK⟩

theorem mayH_1 (c l : Int) (f : Bool) : mayH 1 c l f = (inB c 1 256 && inB l 0 1023) := by
  unfold mayH inB; simp; rw [Bool.and_comm]
theorem mayH_23 {k : Int} (c l : Int) (f : Bool) (hk : k = 2 ∨ k = 3) : mayH k c l f = (inB c 0 0 && inB l 0 1023) := by
  unfold mayH inB
  rcases hk with rfl | rfl <;> (rw [Bool.eq_iff_iff]; simp; omega)
theorem mayH_4 (c l : Int) (f : Bool) : mayH 4 c l f = (!f && (inB c 1 3 && inB l 5 5)) := by
  unfold mayH inB
  cases f <;> simp
  rw [Bool.eq_iff_iff]; simp; omega
theorem mayH_no {k : Int} (c l : Int) (f : Bool) (hk : k < 1 ∨ 4 < k) : mayH k c l f = false := by
  unfold mayH
  rw [Bool.eq_false_iff]; simp; omega

/-- Two bounds, laid. -/
theorem second_block (w : World) (o : Obj) (v : Array Value) (t : TypeId) : ((w.alloc o).alloc (.cells v t)).heap[w.heap.size + 1]? = some (.cells v t (0, 0)) := by
  have := heap_alloc_new (w.alloc o) (.cells v t)
  have e : (w.alloc o).heap.size = w.heap.size + 1 := by simp
  rwa [e] at this

set_option maxRecDepth 100000 in
set_option maxHeartbeats 800000 in
theorem hmay_any (k c l : Int) (f : Bool) (w : World) : Calls Try.prog 22 #[.agg #[.int .i64 k, .int .i64 c, .int .i64 l, .bool f]] w fun e w' => e = .returned (.bool (mayH k c l f)) ∧ Keep [] w w' := by
  have hK1 := Keep.alloc [] w (.cells #[.int .i64 k, .int .i64 c, .int .i64 l, .bool f] 31)
  by_cases h1 : k = 1
  · subst h1
    rw [mayH_1]
    go_enter Try.func22, Try.ntmps22
    go_wp2_with (first | (go_at_call 41; refine (within2 (w.heap.size + 1) c 1 256 l 0 1023 _ (second_block _ _ _ _)).mono ?_; rintro e w1 ⟨rfl, hK2⟩))
    go_ret
    exact ⟨rfl, (hK1.trans (Keep.alloc _ _ _)).trans hK2⟩
  · by_cases h23 : k = 2 ∨ k = 3
    · rw [mayH_23 c l f h23]
      rcases h23 with rfl | rfl
      all_goals
        go_enter Try.func22, Try.ntmps22
        go_wp2_with (first | (go_at_call 41; refine (within2 (w.heap.size + 1) c 0 0 l 0 1023 _ (second_block _ _ _ _)).mono ?_; rintro e w1 ⟨rfl, hK2⟩))
        go_ret
        exact ⟨rfl, (hK1.trans (Keep.alloc _ _ _)).trans hK2⟩
    · by_cases h4 : k = 4
      · subst h4
        rw [mayH_4]
        cases f
        · go_enter Try.func22, Try.ntmps22
          go_wp2_with (first | (go_at_call 41; refine (within2 (w.heap.size + 1) c 1 3 l 5 5 _ (second_block _ _ _ _)).mono ?_; rintro e w1 ⟨rfl, hK2⟩))
          go_ret
          exact ⟨by simp, (hK1.trans (Keep.alloc _ _ _)).trans hK2⟩
        · go_enter Try.func22, Try.ntmps22
          go_wp2_with fail
          go_ret
          exact ⟨by simp, hK1⟩
      · rw [mayH_no c l f (by omega)]
        have e1 : (k == 1) = false := by simp [h1]
        have e2 : (k == 2) = false := by simp; omega
        have e3 : (k == 3) = false := by simp; omega
        have e4 : (k == 4) = false := by simp [h4]
        clear h1 h23 h4
        go_enter Try.func22, Try.ntmps22
        go_wp2_with fail
        go_ret
        exact ⟨rfl, hK1⟩

theorem mayH_bd {k c l : Int} {f : Bool} (h : mayH k c l f = true) : 1 ≤ k ∧ k ≤ 4 ∧ 0 ≤ c ∧ c ≤ 256 ∧ 0 ≤ l ∧ l ≤ 1023 := by
  unfold mayH at h; simp at h; omega
/-- What Put answers. -/
def putN (k c l : Int) (f : Bool) : Int := if mayH k c l f then putH k c l f else 0

set_option maxRecDepth 100000 in
set_option maxHeartbeats 800000 in
theorem hput_any (k c l : Int) (f : Bool) (w : World) : Calls Try.prog 45 #[.agg #[.int .i64 k, .int .i64 c, .int .i64 l, .bool f]] w fun e w' => e = .returned (.tuple #[.int .i64 (putN k c l f), .bool (mayH k c l f)]) ∧ Keep [] w w' := by
  have hK1 := Keep.alloc [] w (.cells #[.int .i64 k, .int .i64 c, .int .i64 l, .bool f] 31)
  have hx := heap_alloc_new w (.cells #[.int .i64 k, .int .i64 c, .int .i64 l, .bool f] 31)
  unfold putN
  cases hm : mayH k c l f with
  | false =>
    have HM := (show Hid (mayH k c l f = false) from hm)
    clear hm
    go_enter Try.func45, Try.ntmps45
    go_wp2_with (first | (go_at_call 22; refine (hmay_any k c l f _).mono ?_; rw [HM.out]; rintro e w1 ⟨rfl, hK2⟩))
    go_ret2
    exact ⟨rfl, hK1.trans hK2⟩
  | true =>
    have HM := (show Hid (mayH k c l f = true) from hm)
    obtain ⟨b1, b2, b3, b4, b5, b6⟩ := mayH_bd hm
    clear hm
    cases f
    · go_enter Try.func45, Try.ntmps45
      go_wp2_with (first | (go_at_call 22; refine (hmay_any k c l _ _).mono ?_; rw [HM.out]; rintro e w1 ⟨rfl, hK2⟩; have hx1 := hK2.blk hx (by simp); have c0 : w1.cell? ⟨w.heap.size, 0, none⟩ = some (.int .i64 k) := (by simp [World.cell?, hx1]); have c1 : w1.cell? ⟨w.heap.size, 1, none⟩ = some (.int .i64 c) := (by simp [World.cell?, hx1]); have c2 : w1.cell? ⟨w.heap.size, 2, none⟩ = some (.int .i64 l) := (by simp [World.cell?, hx1]); have c3 : w1.cell? ⟨w.heap.size, 3, none⟩ = some (.bool false) := (by simp [World.cell?, hx1])))
      go_ret2
      exact ⟨by simp [putH], hK1.trans hK2⟩
    · go_enter Try.func45, Try.ntmps45
      go_wp2_with (first | (go_at_call 22; refine (hmay_any k c l _ _).mono ?_; rw [HM.out]; rintro e w1 ⟨rfl, hK2⟩; have hx1 := hK2.blk hx (by simp); have c0 : w1.cell? ⟨w.heap.size, 0, none⟩ = some (.int .i64 k) := (by simp [World.cell?, hx1]); have c1 : w1.cell? ⟨w.heap.size, 1, none⟩ = some (.int .i64 c) := (by simp [World.cell?, hx1]); have c2 : w1.cell? ⟨w.heap.size, 2, none⟩ = some (.int .i64 l) := (by simp [World.cell?, hx1]); have c3 : w1.cell? ⟨w.heap.size, 3, none⟩ = some (.bool true) := (by simp [World.cell?, hx1])))
      go_ret2
      exact ⟨by simp [putH], hK1.trans hK2⟩

end Go.Proofs.Ytdpaffnpedcmpab
