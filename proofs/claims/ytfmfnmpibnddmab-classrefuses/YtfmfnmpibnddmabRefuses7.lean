/-
  ClassRefuses: what may not be is no class.
-/
import Derived.Test.YtfmfnmpibnddmabAwake7
import Derived.Deep.CutRange
namespace Go.Proofs.Ytfmfnmpibnddmab.classRefuses
open Go.RowKit

/-- Integers of a block that is known whole. -/
theorem IntsAt.block {w : World} {b : Nat} {t : TypeId} {L : List Int} (h : w.heap[b]? = some (.cells (ints L).toArray t (0, 0))) (hb : ∀ i : Nat, -9223372036854775808 ≤ L[i]?.getD 0 ∧ L[i]?.getD 0 ≤ 9223372036854775807) : IntsAt w (some ⟨b, 0, none⟩) L := by
  refine ⟨fun _ => ⟨b, 0, rfl, lt_of_block h, fun i hi => ?_⟩, fun i => (hb i).1, fun i => (hb i).2⟩
  have h' : Row w t b L := h
  rw [Nat.zero_add]
  exact h'.cell hi
theorem bd1 {x : Int} (h : -9223372036854775808 ≤ x ∧ x ≤ 9223372036854775807) : ∀ i : Nat, -9223372036854775808 ≤ ([x] : List Int)[i]?.getD 0 ∧ ([x] : List Int)[i]?.getD 0 ≤ 9223372036854775807 := by
  intro i; rcases i with _ | i <;> simp; exact h
theorem bd2 {x y : Int} (h : -9223372036854775808 ≤ x ∧ x ≤ 9223372036854775807) (h2 : -9223372036854775808 ≤ y ∧ y ≤ 9223372036854775807) : ∀ i : Nat, -9223372036854775808 ≤ ([x, y] : List Int)[i]?.getD 0 ∧ ([x, y] : List Int)[i]?.getD 0 ≤ 9223372036854775807 := by
  intro i; rcases i with _ | _ | i <;> simp <;> assumption

/-- One class that may not be. -/
def Bad (w : World) (b q : Nat) : Prop := ∃ f ao n c L, w.cell? ⟨b, q * 2, none⟩ = some (.int .i64 f) ∧ w.cell? ⟨b, q * 2 + 1, none⟩ = some (.slice ao n c) ∧ IntsAt w ao L ∧ L.length = n ∧ n ≤ 2 ∧ (ao = none → c = 0) ∧ mayB f L = false

theorem seven (wa : World) (k lo hi : Int) (q : Nat) (hq : q < 7) (hk : 2 ≤ k ∧ k ≤ 101) (hlo : lo ≤ -1) (hhi : 1024 ≤ hi) :
    Bad ((((((wa.alloc (.cells #[.int .i64 1, .int .i64 1] 3)).alloc (.cells #[.int .i64 1, .int .i64 0] 3)).alloc (.cells #[.int .i64 (-1)] 3)).alloc (.cells #[.int .i64 k] 3)).alloc (.cells #[.int .i64 0] 3)).alloc
      (.cells #[.int .i64 lo, .slice none 0 0, .int .i64 hi, .slice none 0 0, .int .i64 k, .slice (some ⟨wa.heap.size, 0, none⟩) 2 2, .int .i64 k, .slice (some ⟨wa.heap.size + 1, 0, none⟩) 2 2, .int .i64 k, .slice (some ⟨wa.heap.size + 1 + 1, 0, none⟩) 1 1,
        .int .i64 k, .slice (some ⟨wa.heap.size + 1 + 1 + 1, 0, none⟩) 1 1, .int .i64 0, .slice (some ⟨wa.heap.size + 1 + 1 + 1 + 1, 0, none⟩) 1 1] 47)) (wa.heap.size + 1 + 1 + 1 + 1 + 1) q := by
  have s1 : ∀ (w : World) (o : Obj), (w.alloc o).heap.size = w.heap.size + 1 := by simp
  obtain ⟨x1, e1⟩ : ∃ x, x = wa.alloc (.cells #[.int .i64 1, .int .i64 1] 3) := ⟨_, rfl⟩
  obtain ⟨x2, e2⟩ : ∃ x, x = x1.alloc (.cells #[.int .i64 1, .int .i64 0] 3) := ⟨_, rfl⟩
  obtain ⟨x3, e3⟩ : ∃ x, x = x2.alloc (.cells #[.int .i64 (-1)] 3) := ⟨_, rfl⟩
  obtain ⟨x4, e4⟩ : ∃ x, x = x3.alloc (.cells #[.int .i64 k] 3) := ⟨_, rfl⟩
  obtain ⟨x5, e5⟩ : ∃ x, x = x4.alloc (.cells #[.int .i64 0] 3) := ⟨_, rfl⟩
  rw [← e1, ← e2, ← e3, ← e4, ← e5]
  generalize ho : Obj.cells #[.int .i64 lo, .slice none 0 0, .int .i64 hi, .slice none 0 0, .int .i64 k, .slice (some ⟨wa.heap.size, 0, none⟩) 2 2, .int .i64 k, .slice (some ⟨wa.heap.size + 1, 0, none⟩) 2 2, .int .i64 k, .slice (some ⟨wa.heap.size + 1 + 1, 0, none⟩) 1 1,
        .int .i64 k, .slice (some ⟨wa.heap.size + 1 + 1 + 1, 0, none⟩) 1 1, .int .i64 0, .slice (some ⟨wa.heap.size + 1 + 1 + 1 + 1, 0, none⟩) 1 1] 47 = o6
  have z1 : x1.heap.size = wa.heap.size + 1 := by rw [e1, s1]
  have z2 : x2.heap.size = wa.heap.size + 1 + 1 := by rw [e2, s1, z1]
  have z3 : x3.heap.size = wa.heap.size + 1 + 1 + 1 := by rw [e3, s1, z2]
  have z4 : x4.heap.size = wa.heap.size + 1 + 1 + 1 + 1 := by rw [e4, s1, z3]
  have z5 : x5.heap.size = wa.heap.size + 1 + 1 + 1 + 1 + 1 := by rw [e5, s1, z4]
  have k12 : Keep [] x1 x2 := by rw [e2]; exact Keep.alloc _ _ _
  have k23 : Keep [] x2 x3 := by rw [e3]; exact Keep.alloc _ _ _
  have k34 : Keep [] x3 x4 := by rw [e4]; exact Keep.alloc _ _ _
  have k45 : Keep [] x4 x5 := by rw [e5]; exact Keep.alloc _ _ _
  have k56 : Keep [] x5 (x5.alloc o6) := Keep.alloc _ _ _
  have h1 := ((((k12.trans k23).trans k34).trans k45).trans k56).blk (k := wa.heap.size) (by rw [e1]; exact heap_alloc_new wa _) (by simp)
  have h2 := (((k23.trans k34).trans k45).trans k56).blk (k := wa.heap.size + 1) (by rw [e2, ← z1]; exact heap_alloc_new x1 _) (by simp)
  have h3 := ((k34.trans k45).trans k56).blk (k := wa.heap.size + 1 + 1) (by rw [e3, ← z2]; exact heap_alloc_new x2 _) (by simp)
  have h4 := (k45.trans k56).blk (k := wa.heap.size + 1 + 1 + 1) (by rw [e4, ← z3]; exact heap_alloc_new x3 _) (by simp)
  have h5 := k56.blk (k := wa.heap.size + 1 + 1 + 1 + 1) (by rw [e5, ← z4]; exact heap_alloc_new x4 _) (by simp)
  have h6 := heap_alloc_new x5 o6
  rw [z5, ← ho] at h6
  have c : ∀ (j : Nat) (v : Value), (#[.int .i64 lo, .slice none 0 0, .int .i64 hi, .slice none 0 0, .int .i64 k, .slice (some ⟨wa.heap.size, 0, none⟩) 2 2, .int .i64 k, .slice (some ⟨wa.heap.size + 1, 0, none⟩) 2 2, .int .i64 k, .slice (some ⟨wa.heap.size + 1 + 1, 0, none⟩) 1 1,
        .int .i64 k, .slice (some ⟨wa.heap.size + 1 + 1 + 1, 0, none⟩) 1 1, .int .i64 0, .slice (some ⟨wa.heap.size + 1 + 1 + 1 + 1, 0, none⟩) 1 1] : Array Value)[j]? = some v → (x5.alloc o6).cell? ⟨wa.heap.size + 1 + 1 + 1 + 1 + 1, j, none⟩ = some v := by
    intro j v hv
    rw [← ho, cell_of_row _ _ j _ _ _ h6]
    exact hv
  rcases q with _ | _ | _ | _ | _ | _ | _ | q
  · exact ⟨lo, none, 0, 0, [], c _ _ rfl, c _ _ rfl, IntsAt.nil _ _, rfl, by omega, fun _ => rfl, mayB_low (by omega)⟩
  · exact ⟨hi, none, 0, 0, [], c _ _ rfl, c _ _ rfl, IntsAt.nil _ _, rfl, by omega, fun _ => rfl, mayB_low (by omega)⟩
  · exact ⟨k, _, 2, 2, [1, 1], c _ _ rfl, c _ _ rfl, IntsAt.block h1 (bd2 (by omega) (by omega)), rfl, by omega, (fun e => by cases e), mayB_no 1 (by simp) (fun h => by have := h.2.2 (by omega); simp at this)⟩
  · exact ⟨k, _, 2, 2, [1, 0], c _ _ rfl, c _ _ rfl, IntsAt.block h2 (bd2 (by omega) (by omega)), rfl, by omega, (fun e => by cases e), mayB_no 1 (by simp) (fun h => by have := h.2.2 (by omega); simp at this)⟩
  · exact ⟨k, _, 1, 1, [-1], c _ _ rfl, c _ _ rfl, IntsAt.block h3 (bd1 (by omega)), rfl, by omega, (fun e => by cases e), mayB_no 0 (by simp) (fun h => by have := h.1; simp at this)⟩
  · exact ⟨k, _, 1, 1, [k], c _ _ rfl, c _ _ rfl, IntsAt.block h4 (bd1 (by omega)), rfl, by omega, (fun e => by cases e), mayB_no 0 (by simp) (fun h => by have := h.2.1; simp at this)⟩
  · exact ⟨0, _, 1, 1, [0], c _ _ rfl, c _ _ rfl, IntsAt.block h5 (bd1 (by omega)), rfl, by omega, (fun e => by cases e), mayB_no 0 (by simp) (fun h => by have := h.2.1; simp at this)⟩
  · omega
theorem last_n : addN [] 1023 [0, 1022] = 1 := by decide
theorem last_e : addE [] 1023 [0, 1022] = 0 := by decide
theorem last_r : (addR [] 1023 [0, 1022]).length = 1 := by decide

set_option maxRecDepth 100000 in
set_option maxHeartbeats 3200000 in
theorem walk (a0 : Int) (a1 : Int) (a2 : Int) (w0 : (Lit.int .u8 a0).wf = true) (w1 : (Lit.int .i64 a1).wf = true) (w2 : (Lit.int .u8 a2).wf = true) (w : World) :
    Calls Try.prog 7 #[.int .u8 a0, .int .i64 a1, .int .u8 a2] w fun e w' => e = .returned (.bool true) ∧ Keep [] w w' := by
  have b0 := bounds_u8 w0
  have b1 := bounds_i64 w1
  have b2 := bounds_u8 w2
  obtain ⟨k, hk⟩ : ∃ k : Int, 2 + a0 % 100 = k := ⟨_, rfl⟩
  obtain ⟨q, hq⟩ : ∃ q : Nat, a2 % 7 = q := ⟨(a2 % 7).toNat, by omega⟩
  have hq7 : q < 7 := by omega
  have hk2 : 2 ≤ k ∧ k ≤ 101 := by omega
  obtain ⟨lo, hlo⟩ : ∃ lo, (if -1 < a1 then -1 else a1) = lo := ⟨_, rfl⟩
  obtain ⟨hi, hhi⟩ : ∃ hi, (if a1 < 1024 then 1024 else a1) = hi := ⟨_, rfl⟩
  have hlo2 : lo ≤ -1 := by rw [← hlo]; split <;> omega
  have hhi2 : 1024 ≤ hi := by rw [← hhi]; split <;> omega
  have hqi0 : (0 : Int) ≤ (q : Int) := by omega
  have hqi1 : (q : Int) < 7 := by omega
  go_enter Try.func7, Try.ntmps7
  go_upto_region 6 with (first | (go_at_call 16; refine (tnew _).mono ?_; rintro e wa ⟨tb, rfl, hT1, hK1, htb⟩))
  have hB := seven wa k lo hi q hq7 hk2 hlo2 hhi2
  have hK2 : Keep [] wa ((((((wa.alloc (.cells #[.int .i64 1, .int .i64 1] 3)).alloc (.cells #[.int .i64 1, .int .i64 0] 3)).alloc (.cells #[.int .i64 (-1)] 3)).alloc (.cells #[.int .i64 k] 3)).alloc (.cells #[.int .i64 0] 3)).alloc
      (.cells #[.int .i64 lo, .slice none 0 0, .int .i64 hi, .slice none 0 0, .int .i64 k, .slice (some ⟨wa.heap.size, 0, none⟩) 2 2, .int .i64 k, .slice (some ⟨wa.heap.size + 1, 0, none⟩) 2 2, .int .i64 k, .slice (some ⟨wa.heap.size + 1 + 1, 0, none⟩) 1 1,
        .int .i64 k, .slice (some ⟨wa.heap.size + 1 + 1 + 1, 0, none⟩) 1 1, .int .i64 0, .slice (some ⟨wa.heap.size + 1 + 1 + 1 + 1, 0, none⟩) 1 1] 47)) := (((((Keep.alloc _ _ _).trans (Keep.alloc _ _ _)).trans (Keep.alloc _ _ _)).trans (Keep.alloc _ _ _)).trans (Keep.alloc _ _ _)).trans (Keep.alloc _ _ _)
  generalize hwb : ((((((wa.alloc (.cells #[.int .i64 1, .int .i64 1] 3)).alloc (.cells #[.int .i64 1, .int .i64 0] 3)).alloc (.cells #[.int .i64 (-1)] 3)).alloc (.cells #[.int .i64 k] 3)).alloc (.cells #[.int .i64 0] 3)).alloc
      (.cells #[.int .i64 lo, .slice none 0 0, .int .i64 hi, .slice none 0 0, .int .i64 k, .slice (some ⟨wa.heap.size, 0, none⟩) 2 2, .int .i64 k, .slice (some ⟨wa.heap.size + 1, 0, none⟩) 2 2, .int .i64 k, .slice (some ⟨wa.heap.size + 1 + 1, 0, none⟩) 1 1,
        .int .i64 k, .slice (some ⟨wa.heap.size + 1 + 1 + 1, 0, none⟩) 1 1, .int .i64 0, .slice (some ⟨wa.heap.size + 1 + 1 + 1 + 1, 0, none⟩) 1 1] 47)) = wb at *
  generalize wa.heap.size + 1 + 1 + 1 + 1 + 1 = B at *
  obtain ⟨f, ao, n, c, L, x0, x1, hI, hL, hn, hc, hm⟩ := hB
  have HI := (show Hid (IntsAt wb ao L) from hI)
  have HL := (show Hid (L.length = n) from hL)
  have HM := (show Hid (mayB f L = false) from hm)
  have HT := (show Hid (IsTab wb tb [tb] []) from hT1.keep hK2 (by simp))
  clear hI hL hm hc hT1 hwb
  go_upto_region 7 with (first | (go_at_call 18; refine (tadd_arg tb f ao n c L _ HI.out HL.out (by omega) HM.out).mono ?_; rintro e wc ⟨rfl, hKc⟩; have hx := heap_alloc_new wc (.cells #[.int .i64 0, .int .i64 1022] 3); have HT2 := (show Hid (IsTab (wc.alloc (.cells #[.int .i64 0, .int .i64 1022] 3)) tb [tb] []) from (HT.out.keep hKc (by simp)).keep (Keep.alloc [] _ _) (by simp)); have HI2 := (show Hid (IntsAt (wc.alloc (.cells #[.int .i64 0, .int .i64 1022] 3)) (some ⟨wc.heap.size, 0, none⟩) [0, 1022]) from IntsAt.block hx (bd2 (by omega) (by omega))); clear hx))
  go_upto_region 8 with (first | (go_at_call 18; refine (tadd_any tb _ [] 1023 _ 2 2 [0, 1022] _ HT2.out HI2.out (fun e => by cases e) rfl (by omega)).mono ?_; rw [last_n, last_e]; rintro e wd ⟨rfl, ⟨F2, hTd, _⟩, hKd⟩))
  go_wp2_with (first | (go_at_call 10; refine (err7 _ _).mono ?_; rintro e w' ⟨rfl, rfl⟩) | (go_at_call 22; refine (tclasses tb _ _ _ hTd).mono ?_; rw [last_r]; rintro e w' ⟨rfl, rfl⟩) | (go_at_call 17; refine (awake7_any _).mono ?_; rintro e we ⟨rfl, hKe⟩))
  go_ret
  have s1 := hK1.size
  exact ⟨rfl, ((((((hK1.mono (T := [tb]) (by simp)).trans (hK2.mono (by simp))).trans (hKc.mono (by simp))).trans (Keep.alloc [tb] _ _)).trans hKd).trans (hKe.mono (by simp))).drop (by simp; omega)⟩

end Go.Proofs.Ytfmfnmpibnddmab.classRefuses
