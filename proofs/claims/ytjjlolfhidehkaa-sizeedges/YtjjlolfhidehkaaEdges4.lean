/-
  SizeEdges answers true, whatever it is given.
-/
import Derived.Test.YtjjlolfhidehkaaAwake4
import Derived.Deep.RegionHeld3
import Derived.ProofKit
import Derived.OpenShut
namespace Go.Proofs.Ytjjlolfhidehkaa
open Go.RowKit

def eN : List Int := [1, 2, 3, 4, 5, 8, 9, 16, 17, 32, 33, 64, 65, 128, 129, 1024, 1025, 0, -1]
def eB : List Int := [2, 2, 4, 4, 8, 8, 16, 16, 32, 32, 64, 64, 128, 128, 192, 1024, 0, 0, 0]
def eC : List Int := [0, 0, 1, 1, 2, 2, 3, 3, 4, 4, -1, -1, -1, -1, -1, -1, -1, -1, -1]
def eP : List Int := [0, 0, 0, 0, 0, 0, 0, 0, 0, 0, 1, 1, 2, 2, 3, 16, 0, 0, 0]
theorem edges_dec : ∀ k : Fin 19, blockI (eN[k.val]?.getD 0) = eB[k.val]?.getD 0 ∧ classI (eN[k.val]?.getD 0) = eC[k.val]?.getD 0 ∧ pagesI (eN[k.val]?.getD 0) = eP[k.val]?.getD 0 := by decide +kernel

/-- Four rows, laid one after another. -/
theorem four_rows (w : World) (t : TypeId) (A B C D : List Int) :
    ∃ w4, (((w.alloc (.cells (ints A).toArray t)).alloc (.cells (ints B).toArray t)).alloc (.cells (ints C).toArray t)).alloc (.cells (ints D).toArray t) = w4 ∧ Keep [] w w4 ∧ Row w4 t w.heap.size A ∧ Row w4 t (w.heap.size + 1) B ∧ Row w4 t (w.heap.size + 1 + 1) C ∧ Row w4 t (w.heap.size + 1 + 1 + 1) D := by
  refine ⟨_, rfl, (((Keep.alloc _ w _).trans (Keep.alloc _ _ _)).trans (Keep.alloc _ _ _)).trans (Keep.alloc _ _ _), ?_, ?_, ?_, ?_⟩
  · refine Row.keep (S := []) (Row.keep (S := []) (Row.keep (S := []) (heap_alloc_new w _ : Row _ t _ A) (Keep.alloc _ _ _) (by simp)) (Keep.alloc _ _ _) (by simp)) (Keep.alloc _ _ _) (by simp)
  · refine Row.keep (S := []) (Row.keep (S := []) (?_ : Row _ t _ B) (Keep.alloc _ _ _) (by simp)) (Keep.alloc _ _ _) (by simp)
    have := heap_alloc_new (w.alloc (.cells (ints A).toArray t)) (.cells (ints B).toArray t)
    simpa [Row] using this
  · refine Row.keep (S := []) (?_ : Row _ t _ C) (Keep.alloc _ _ _) (by simp)
    have := heap_alloc_new ((w.alloc (.cells (ints A).toArray t)).alloc (.cells (ints B).toArray t)) (.cells (ints C).toArray t)
    simpa [Row] using this
  · have := heap_alloc_new (((w.alloc (.cells (ints A).toArray t)).alloc (.cells (ints B).toArray t)).alloc (.cells (ints C).toArray t)) (.cells (ints D).toArray t)
    simpa [Row] using this

set_option maxRecDepth 100000 in
set_option maxHeartbeats 1600000 in
theorem edges_any (n : Nat) (w : World) (hn : n < 256) :
    Calls Try.prog 6 #[.int .u8 n] w fun e w' => e = .returned (.bool true) ∧ Keep [] w w' := by
  obtain ⟨k, hk, hk1⟩ : ∃ k : Nat, (n : Int) % 19 = k ∧ k < 19 := ⟨n % 19, by omega, by omega⟩
  have hk2 : (0 : Int) ≤ (k : Int) := by omega
  have hk3 : (k : Int) < 19 := by omega
  go_enter Try.func6, Try.ntmps6
  go_wp2_with fail
  rw [hk]
  obtain ⟨w4, hw4, hK, r1, r2, r3, r4⟩ := four_rows w 3 eN eB eC eP
  simp only [eN, eB, eC, eP, ints, List.map] at hw4
  rw [hw4]
  have x1 := r1.cell (i := k) hk1
  have x2 := r2.cell (i := k) hk1
  have x3 := r3.cell (i := k) hk1
  have x4 := r4.cell (i := k) hk1
  have l1 := r1.lt
  have l2 := r2.lt
  have l3 := r3.lt
  have l4 := r4.lt
  obtain ⟨e1, e2, e3⟩ := edges_dec ⟨k, hk1⟩
  simp only at e1 e2 e3
  generalize eN[k]?.getD 0 = z at *
  generalize eB[k]?.getD 0 = zb at *
  generalize eC[k]?.getD 0 = zc at *
  generalize eP[k]?.getD 0 = zp at *
  generalize w.heap.size + 1 + 1 + 1 = g4 at *
  generalize w.heap.size + 1 + 1 = g3 at *
  generalize w.heap.size + 1 = g2 at *
  generalize w.heap.size = g1 at *
  clear r1 r2 r3 r4 hw4
  replace hK := hK.trans (Keep.drew [] w4)
  have y1 : w4.drew.cell? ⟨g1, k, none⟩ = some (.int .i64 z) := x1
  have y2 : w4.drew.cell? ⟨g2, k, none⟩ = some (.int .i64 zb) := x2
  have y3 : w4.drew.cell? ⟨g3, k, none⟩ = some (.int .i64 zc) := x3
  have y4 : w4.drew.cell? ⟨g4, k, none⟩ = some (.int .i64 zp) := x4
  have m1 : g1 < w4.drew.heap.size := l1
  have m2 : g2 < w4.drew.heap.size := l2
  have m3 : g3 < w4.drew.heap.size := l3
  have m4 : g4 < w4.drew.heap.size := l4
  clear x1 x2 x3 x4 l1 l2 l3 l4
  go_region_held3 (fun wz => wz.cell? ⟨g1, k, none⟩ = some (.int .i64 z) ∧ wz.cell? ⟨g2, k, none⟩ = some (.int .i64 zb) ∧ wz.cell? ⟨g3, k, none⟩ = some (.int .i64 zc) ∧ wz.cell? ⟨g4, k, none⟩ = some (.int .i64 zp)) (go_keep) (first | (go_at_call 11; refine (block_any z _).mono ?_; rw [e1]; rintro e w5 ⟨rfl, hK5⟩; have p1 := (hK5.cell m1 (by simp) k).trans y1; have p2 := (hK5.cell m2 (by simp) k).trans y2; have p3 := (hK5.cell m3 (by simp) k).trans y3; have p4 := (hK5.cell m4 (by simp) k).trans y4; have t1 := Nat.lt_of_lt_of_le m1 hK5.size; have t2 := Nat.lt_of_lt_of_le m2 hK5.size; have t3 := Nat.lt_of_lt_of_le m3 hK5.size; have t4 := Nat.lt_of_lt_of_le m4 hK5.size) | (go_at_call 9; refine (class_any z _).mono ?_; rw [e2]; rintro e w6 ⟨rfl, hK6⟩; have q1 := (hK6.cell t1 (by simp) k).trans p1; have q2 := (hK6.cell t2 (by simp) k).trans p2; have q3 := (hK6.cell t3 (by simp) k).trans p3; have q4 := (hK6.cell t4 (by simp) k).trans p4; have u1 := Nat.lt_of_lt_of_le t1 hK6.size; have u2 := Nat.lt_of_lt_of_le t2 hK6.size; have u3 := Nat.lt_of_lt_of_le t3 hK6.size; have u4 := Nat.lt_of_lt_of_le t4 hK6.size) | (go_at_call 12; refine (pages_any z _).mono ?_; rw [e3]; rintro e w7 ⟨rfl, hK7⟩; have v1 := (hK7.cell u1 (by simp) k).trans q1; have v2 := (hK7.cell u2 (by simp) k).trans q2; have v3 := (hK7.cell u3 (by simp) k).trans q3; have v4 := (hK7.cell u4 (by simp) k).trans q4; have s1 := Nat.lt_of_lt_of_le u1 hK7.size; have s2 := Nat.lt_of_lt_of_le u2 hK7.size; have s3 := Nat.lt_of_lt_of_le u3 hK7.size; have s4 := Nat.lt_of_lt_of_le u4 hK7.size) | (go_at_call 7; refine (awake4_any _).mono ?_; rintro e w8 ⟨rfl, hK8⟩; have z1 := (hK8.cell s1 (by simp) k).trans v1; have z2 := (hK8.cell s2 (by simp) k).trans v2; have z3 := (hK8.cell s3 (by simp) k).trans v3; have z4 := (hK8.cell s4 (by simp) k).trans v4))
  go_wp2_with fail
  go_ret
  exact ⟨rfl, (((hK.trans hK5).trans hK6).trans hK7).trans hK8⟩

end Go.Proofs.Ytjjlolfhidehkaa

namespace Go.Proofs.Ytjjlolfhidehkaa.sizeEdges
theorem walk (a0 : Int) (w0 : (Lit.int .u8 a0).wf = true) (w : World) :
    Calls Try.prog 6 #[.int .u8 a0] w fun e w' => e = .returned (.bool true) ∧ Keep [] w w' := by
  have b0 := bounds_u8 w0
  obtain ⟨n, rfl⟩ := Int.eq_ofNat_of_zero_le b0.1
  exact edges_any n w (by omega)
end Go.Proofs.Ytjjlolfhidehkaa.sizeEdges
