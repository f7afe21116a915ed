/-
  HeadKnown: words that are known.
-/
import Derived.Test.YtmnjheodligohaaHeadRef
import Derived.Deep.RegionHeld3
import Derived.ProofKit
import Derived.OpenShut
namespace Go.Proofs.Ytmnjheodligohaa.headKnown
open Go.RowKit

/-- Place q of the two lists. -/
def At (w : World) (b1 b2 q : Nat) (k c l : Int) (f : Bool) (x : Int) : Prop :=
  w.cell? ⟨b1, q * 4, none⟩ = some (.int .i64 k) ∧ w.cell? ⟨b1, q * 4 + 1, none⟩ = some (.int .i64 c) ∧ w.cell? ⟨b1, q * 4 + 2, none⟩ = some (.int .i64 l) ∧ w.cell? ⟨b1, q * 4 + 3, none⟩ = some (.bool f) ∧ w.cell? ⟨b2, q, none⟩ = some (.int .i64 x) ∧ b1 < w.heap.size ∧ b2 < w.heap.size
theorem At.keep {w w' : World} {b1 b2 q : Nat} {k c l x : Int} {f : Bool} (h : At w b1 b2 q k c l f x) (K : Keep [] w w') : At w' b1 b2 q k c l f x := by
  obtain ⟨h1, h2, h3, h4, h5, h6, h7⟩ := h
  exact ⟨(K.cell h6 (by simp) _).trans h1, (K.cell h6 (by simp) _).trans h2, (K.cell h6 (by simp) _).trans h3, (K.cell h6 (by simp) _).trans h4, (K.cell h7 (by simp) _).trans h5, Nat.lt_of_lt_of_le h6 K.size, Nat.lt_of_lt_of_le h7 K.size⟩

theorem known (w : World) (q : Nat) (hq : q < 5) : ∃ k c l f x, At ((w.alloc (.cells #[.int .i64 1, .int .i64 1, .int .i64 0, .bool false, .int .i64 2, .int .i64 0, .int .i64 2, .bool false, .int .i64 3, .int .i64 0, .int .i64 1, .bool true, .int .i64 4, .int .i64 3, .int .i64 5, .bool false, .int .i64 1, .int .i64 256, .int .i64 1023, .bool true] 23)).alloc (.cells #[.int .i64 17, .int .i64 131074, .int .i64 65547, .int .i64 327732, .int .i64 67047433] 3)) w.heap.size (w.heap.size + 1) q k c l f x ∧ Word x k c l f := by
  have h2 := second_block w (.cells #[.int .i64 1, .int .i64 1, .int .i64 0, .bool false, .int .i64 2, .int .i64 0, .int .i64 2, .bool false, .int .i64 3, .int .i64 0, .int .i64 1, .bool true, .int .i64 4, .int .i64 3, .int .i64 5, .bool false, .int .i64 1, .int .i64 256, .int .i64 1023, .bool true] 23) #[.int .i64 17, .int .i64 131074, .int .i64 65547, .int .i64 327732, .int .i64 67047433] 3
  have h1 := (Keep.alloc [] (w.alloc (.cells #[.int .i64 1, .int .i64 1, .int .i64 0, .bool false, .int .i64 2, .int .i64 0, .int .i64 2, .bool false, .int .i64 3, .int .i64 0, .int .i64 1, .bool true, .int .i64 4, .int .i64 3, .int .i64 5, .bool false, .int .i64 1, .int .i64 256, .int .i64 1023, .bool true] 23)) (.cells #[.int .i64 17, .int .i64 131074, .int .i64 65547, .int .i64 327732, .int .i64 67047433] 3)).blk (heap_alloc_new w (.cells #[.int .i64 1, .int .i64 1, .int .i64 0, .bool false, .int .i64 2, .int .i64 0, .int .i64 2, .bool false, .int .i64 3, .int .i64 0, .int .i64 1, .bool true, .int .i64 4, .int .i64 3, .int .i64 5, .bool false, .int .i64 1, .int .i64 256, .int .i64 1023, .bool true] 23)) (by simp)
  have c1 := fun j => cell_of_row _ _ j _ _ _ h1
  have c2 := fun j => cell_of_row _ _ j _ _ _ h2
  have l1 := lt_of_block h1
  have l2 := lt_of_block h2
  rcases q with _ | _ | _ | _ | _ | q
  · exact ⟨1, 1, 0, false, 17, ⟨(c1 _).trans rfl, (c1 _).trans rfl, (c1 _).trans rfl, (c1 _).trans rfl, (c2 _).trans rfl, l1, l2⟩, by decide⟩
  · exact ⟨2, 0, 2, false, 131074, ⟨(c1 _).trans rfl, (c1 _).trans rfl, (c1 _).trans rfl, (c1 _).trans rfl, (c2 _).trans rfl, l1, l2⟩, by decide⟩
  · exact ⟨3, 0, 1, true, 65547, ⟨(c1 _).trans rfl, (c1 _).trans rfl, (c1 _).trans rfl, (c1 _).trans rfl, (c2 _).trans rfl, l1, l2⟩, by decide⟩
  · exact ⟨4, 3, 5, false, 327732, ⟨(c1 _).trans rfl, (c1 _).trans rfl, (c1 _).trans rfl, (c1 _).trans rfl, (c2 _).trans rfl, l1, l2⟩, by decide⟩
  · exact ⟨1, 256, 1023, true, 67047433, ⟨(c1 _).trans rfl, (c1 _).trans rfl, (c1 _).trans rfl, (c1 _).trans rfl, (c2 _).trans rfl, l1, l2⟩, by decide⟩
  · omega

set_option maxRecDepth 100000 in
set_option maxHeartbeats 3200000 in
theorem walk (a0 : Int) (w0 : (Lit.int .u8 a0).wf = true) (w : World) :
    Calls Try.prog 7 #[.int .u8 a0] w fun e w' => e = .returned (.bool true) ∧ Keep [] w w' := by
  have b0 := bounds_u8 w0
  obtain ⟨q, hq⟩ : ∃ q : Nat, a0 % 5 = q := ⟨(a0 % 5).toNat, by omega⟩
  have hq5 : q < 5 := by omega
  have hqi0 : (0 : Int) ≤ (q : Int) := by omega
  have hqi1 : (q : Int) < 5 := by omega
  obtain ⟨k, c, l, f, x, hA, hW⟩ := known w q hq5
  have hKK := (Keep.alloc [] w (.cells #[.int .i64 1, .int .i64 1, .int .i64 0, .bool false, .int .i64 2, .int .i64 0, .int .i64 2, .bool false, .int .i64 3, .int .i64 0, .int .i64 1, .bool true, .int .i64 4, .int .i64 3, .int .i64 5, .bool false, .int .i64 1, .int .i64 256, .int .i64 1023, .bool true] 23)).trans (Keep.alloc [] (w.alloc (.cells #[.int .i64 1, .int .i64 1, .int .i64 0, .bool false, .int .i64 2, .int .i64 0, .int .i64 2, .bool false, .int .i64 3, .int .i64 0, .int .i64 1, .bool true, .int .i64 4, .int .i64 3, .int .i64 5, .bool false, .int .i64 1, .int .i64 256, .int .i64 1023, .bool true] 23)) (.cells #[.int .i64 17, .int .i64 131074, .int .i64 65547, .int .i64 327732, .int .i64 67047433] 3))
  have HW := (show Hid (Word x k c l f) from hW)
  have HM := (show Hid (mayH k c l f = true) from hW.1)
  have HP := (show Hid (putN k c l f = x) from by show _ = _; unfold putN; rw [hW.1]; exact hW.2)
  clear hW
  go_enter Try.func7, Try.ntmps7
  go_upto_region 3 with fail
  generalize (w.alloc (.cells #[.int .i64 1, .int .i64 1, .int .i64 0, .bool false, .int .i64 2, .int .i64 0, .int .i64 2, .bool false, .int .i64 3, .int .i64 0, .int .i64 1, .bool true, .int .i64 4, .int .i64 3, .int .i64 5, .bool false, .int .i64 1, .int .i64 256, .int .i64 1023, .bool true] 23)).alloc (.cells #[.int .i64 17, .int .i64 131074, .int .i64 65547, .int .i64 327732, .int .i64 67047433] 3) = wa at *
  generalize hb2 : w.heap.size + 1 = b2 at *
  generalize hb1 : w.heap.size = b1 at *
  clear hb1 hb2
  have HA := (show Hid (At wa b1 b2 q k c l f x) from hA)
  obtain ⟨p0, p1, p2, p3, p4, p5, p6⟩ := hA
  go_upto_region 6 with (first | (go_at_call 8; refine (hput_any k c l f _).mono ?_; rw [HP.out, HM.out]; rintro e wb ⟨rfl, hK⟩; have hKK := hKK.trans hK; have HA := (show Hid (At _ b1 b2 q k c l f x) from HA.out.keep hK); obtain ⟨p0, p1, p2, p3, p4, p5, p6⟩ := HA.out) | (go_at_call 11; refine (hget_yes x k c l f _ HW.out).mono ?_; rintro e wc ⟨rfl, hKc⟩))
  have HA := (show Hid (At _ b1 b2 q k c l f x) from ((HA.out.keep hKc).keep (Keep.alloc [] wc (.cells #[.int .i64 k, .int .i64 c, .int .i64 l, .bool f] 23))).keep (Keep.drew [] _))
  have hx3 := (Keep.drew [] _).blk (heap_alloc_new wc (.cells #[.int .i64 k, .int .i64 c, .int .i64 l, .bool f] 23)) (by simp)
  have hKK := ((hKK.trans hKc).trans (Keep.alloc [] wc (.cells #[.int .i64 k, .int .i64 c, .int .i64 l, .bool f] 23))).trans (Keep.drew [] _)
  generalize wc.alloc (.cells #[.int .i64 k, .int .i64 c, .int .i64 l, .bool f] 23) = wd at *
  generalize wc.heap.size = b3 at *
  clear p0 p1 p2 p3 p4 p5 p6 hKc
  obtain ⟨p0, p1, p2, p3, p4, p5, p6⟩ := HA.out
  obtain ⟨c0, c1, c2, c3⟩ := four_cells hx3
  go_region_held3 (fun wz => wz.cell? ⟨b1, q * 4, none⟩ = some (.int .i64 k) ∧ wz.cell? ⟨b1, q * 4 + 1, none⟩ = some (.int .i64 c) ∧ wz.cell? ⟨b1, q * 4 + 2, none⟩ = some (.int .i64 l) ∧ wz.cell? ⟨b1, q * 4 + 3, none⟩ = some (.bool f) ∧ wz.cell? ⟨b2, q, none⟩ = some (.int .i64 x) ∧ wz.cell? ⟨b3, 0, none⟩ = some (.int .i64 k) ∧ wz.cell? ⟨b3, 1, none⟩ = some (.int .i64 c) ∧ wz.cell? ⟨b3, 2, none⟩ = some (.int .i64 l) ∧ wz.cell? ⟨b3, 3, none⟩ = some (.bool f)) (go_keep) (first | (go_at_call 14; refine (awake8_any _).mono ?_; rintro e wj ⟨rfl, hK⟩; have hKK := hKK.trans hK; have HA := (show Hid (At _ b1 b2 q k c l f x) from HA.out.keep hK); have hx3 := hK.blk hx3 (by simp); obtain ⟨p0, p1, p2, p3, p4, p5, p6⟩ := HA.out; obtain ⟨c0, c1, c2, c3⟩ := four_cells hx3))
  go_wp2_with fail
  go_ret
  exact ⟨rfl, hKK⟩

end Go.Proofs.Ytmnjheodligohaa.headKnown
