/-
  RefMakes: a new reference has what it was made of, and its number; each is one more than the one ahead.
-/
import Derived.Test.YtamcoejlghfleaaPart6
import Derived.Test.YtamcoejlghfleaaOpens
import Derived.Deep.CutRange
namespace Go.Proofs.Ytamcoejlghfleaa.refMakes
open Go.RowKit

theorem _root_.Go.Proofs.Ytamcoejlghfleaa.ST.drop {kd : List PK} {ws D L : List Int} {u : Nat} {cl r q : Nat → Int} (h : ST kd ws u D L cl r q) (cl' r' q' : Nat → Int) : ST kd ws u D [] cl' r' q' :=
  ⟨h.fine, h.len, h.free, h.data, fun j hj => by simp at hj, fun i j hi => by simp at hi⟩
/-- A new reference's fields, by number. -/
def fv (a q t u : Int) (k : Nat) : Int := [a, q, 0, t, u][k]?.getD 0
theorem fv_field {kd : List PK} {ws : List Int} {b : Nat} {c a q t u : Int} (h : RF kd ws b c a q 0 t u) (hf : Fine ws kd []) (k : Nat) (hk : k < 5) : FieldT kd ws b k (fv a q t u k) 0 := by
  obtain ⟨h0, h1, h2, h3, h4⟩ := h.field hf
  rcases (show k = 0 ∨ k = 1 ∨ k = 2 ∨ k = 3 ∨ k = 4 by omega) with rfl | rfl | rfl | rfl | rfl
  · exact h0
  · exact h1
  · exact h2
  · exact h3
  · exact h4
theorem fv_cell {w : World} {g : Nat} {ty : TypeId} {a q t u : Int} (h : w.heap[g]? = some (.cells #[.int .i64 a, .int .i64 q, .int .i64 0, .int .i64 t, .int .i64 u] ty (0, 0))) (k : Nat) (hk : k < 5) : w.cell? ⟨g, k, none⟩ = some (.int .i64 (fv a q t u k)) := by
  rcases (show k = 0 ∨ k = 1 ∨ k = 2 ∨ k = 3 ∨ k = 4 by omega) with rfl | rfl | rfl | rfl | rfl <;> simp [World.cell?, h, fv]

set_option maxRecDepth 100000 in
set_option maxHeartbeats 12800000 in
theorem walk (ao : Option Addr) (n c : Nat) (B : Nat → Nat) (a1 : Int) (_ : n ≤ 9223372036854775807) (w1 : (Lit.int .u16 a1).wf = true) (w : World) (u0 : U8At w ao n B) :
    Calls Try.prog 5 #[.slice ao n c, .int .u16 a1] w fun e w' => e = .returned (.bool true) ∧ Keep [] w w' := by
  have h1 := bounds_u16 w1
  obtain ⟨t, rfl⟩ := Int.eq_ofNat_of_zero_le h1.1
  have ht : t < 65536 := by omega
  have HB := hid u0
  clear u0 w1 h1
  obtain ⟨W, K, A, hC⟩ := dchain_ex 3 (by omega)
  have HC := hid hC
  obtain ⟨D, hD⟩ : ∃ D, aL A 3 = D := ⟨_, rfl⟩
  have HD := hid hD
  have HDL := (show Hid (D.length = 3) from by show _ = _; rw [← hD, aL_length])
  have hst := hC.st (fun _ => 0) (fun _ => 0) (fun _ => 0)
  rw [hD] at hst
  have HS0 := hid hst
  clear hC hst hD
  go_enter Try.func5, Try.ntmps5
  go_wp2_with fail
  refine (made13 3 3 3 HC.out (by omega) (by omega) (by omega) _).mono ?_
  rintro e w1 ⟨hb, pb, qb, la, lc, rfl, hX⟩
  rw [HD.out] at hX
  have HX1 := hid hX
  clear hX
  obtain ⟨lb, lo, rfl, _, _⟩ := HX1.out.snd.list.cells (by rw [HDL.out]; omega)
  go_wp2_with fail
  go_loopw [8] (fun i wr => ∃ (j : Nat) (ws : List Int) (kd : List PK), i = .int .i64 j ∧ j ≤ 20 ∧ Hid (ST kd ws (3 + j) D [] (fun _ => 0) (fun _ => 0) (fun _ => 0)) ∧ Hid (Has w [] ((prefA pb qb hb j ws kd [] (nQ 3)).star (listA (some ⟨lb, lo, none⟩) D)) wr)) (fun i _ => 20 - (intOf i).toNat)
  case atStart => exact ⟨0, _, _, rfl, by omega, HS0, HX1⟩
  case round =>
    obtain ⟨j, ws, kd, rfl, hj, HS, HX⟩ := hrel
    obtain ⟨w2, rfl⟩ : ∃ w2, w2 = wr := ⟨_, rfl⟩
    clear HX1 HS0
    by_cases hlt : j < n ∧ j < 20
    · obtain ⟨hjn, hj20⟩ := hlt
      have d1 : decide (j < n) = true := decide_eq_true hjn
      have d1' : decide ((j : Int) < (n : Int)) = true := decide_eq_true (by omega)
      have d2 : decide ((j : Int) < 20) = true := decide_eq_true (by omega)
      obtain ⟨ab, aof, rfl, hab, hca⟩ := HB.out.cells (by omega)
      have hcb := (HX.out.K.cell hab (by simp) (aof + j)).trans (hca j hjn)
      have hb0 := HB.out.lt j
      obtain ⟨b0, hb0e⟩ : ∃ b0, B j = b0 := ⟨_, rfl⟩
      rw [hb0e] at hcb hb0
      obtain ⟨r, hr⟩ : ∃ r, b0 % 3 = r := ⟨_, rfl⟩
      obtain ⟨e, he⟩ : ∃ e, b0 / 4 = e := ⟨_, rfl⟩
      obtain ⟨q, hq⟩ : ∃ q, e % 3 = q := ⟨_, rfl⟩
      obtain ⟨m, hm⟩ : ∃ m, j % 3 = m := ⟨_, rfl⟩
      obtain ⟨s, hs⟩ : ∃ s : Int, 1 + (r : Int) = s := ⟨_, rfl⟩
      obtain ⟨tj, htj⟩ : ∃ tj, t + j = tj := ⟨_, rfl⟩
      have hri : (b0 : Int) % 3 = r := by omega
      have hei : (b0 : Int) / 4 = e := by omega
      have hqi : (e : Int) % 3 = q := by omega
      have hmi : (j : Int) % 3 = m := by omega
      have htji : (t : Int) + (j : Int) = tj := by omega
      have hs3 : 1 ≤ s ∧ s ≤ 3 := by omega
      have hq3 : q < 3 := by omega
      have hm3 : m < 3 := by omega
      have hm3i : (m : Int) < 3 := by omega
      have hm0i : (0 : Int) ≤ m := by omega
      have htl : tj < 70000 := by omega
      obtain ⟨d, dm, ed, hO⟩ := HS.out.data m (by rw [HDL.out]; exact hm3)
      have hdb := hO.facts HS.out.fine.wf
      have hdl : 64 ≤ d ∧ d ≤ 20000 := by have := HS.out.len; omega
      obtain ⟨b, ws2, kd2, hT, st2, hR, _, hb1, hb2⟩ := (HS.out.drop (fun _ => s) (fun _ => (d : Int)) (fun _ => (q : Int) + 1)).refer (n := 3) (S := j) (s := s) (a := d) (qq := q) (t := tj) (by omega) (by omega) (by omega) (by omega) (by omega) (by omega) ⟨d, dm, _, _, _, _, rfl, hO⟩ (by omega) ⟨by omega, by omega⟩ ⟨by omega, by omega⟩ rfl rfl rfl
      have HT := hid hT
      have HR := hid hR
      have HS2 := (show Hid (ST kd2 ws2 (3 + (j + 1)) D [] (fun _ => 0) (fun _ => 0) (fun _ => 0)) from st2.drop _ _ _)
      have HED := hid ed
      obtain ⟨_, _, e5, _, hcs⟩ := HX.out.snd.list.cells (by rw [HDL.out]; omega)
      cases e5
      have hcl := hcs m (by rw [HDL.out]; exact hm3)
      rw [ed] at hcl
      clear hca hb0e hr he hq hm hT st2 hR ed hO hdb hcs HS htj
      go_upto_region 7 with fail
      go_quiet (fail)
      try rw [hqi]
      have HXd := hid (HX.out.keep0 (Keep.drewN [] w2 nq))
      have hcld := ((Keep.drewN [] w2 nq).cell (lt_of_cell2' hcl) (by simp) _).trans hcl
      clear hcb hri hei hqi hs HX hcl
      generalize w2.drewN nq = w2d at *
      go_wp2_with fail
      refine (has_left HXd.out (fun F hF => prefer 3 s d q tj b 0 ((j : Int) + 1) ws2 kd2 _ hF (nQ_length 3) HT.out ⟨by omega, by omega⟩ ⟨by omega, by omega⟩ (by omega))).mono ?_
      rintro e w3 ⟨rfl, hX3⟩
      have HX3 := hid hX3
      clear hX3 HXd hcld
      go_upto_region 10 with (first | (go_at_call 19; refine (ohead b 4 s 5 0 false _ HX3.out.fst.pheap HR.out.ref.headT).mono ?_; rintro e w4 ⟨rfl, hK4⟩))
      have hy := heap_alloc_new w4 (.cells #[.int .i64 4, .int .i64 s, .int .i64 5, .bool false] 48)
      obtain ⟨g0, g1, g2, g3⟩ := four_cells hy
      have HX5 := hid (HX3.out.keep0 (hK4.trans (Keep.alloc [] w4 (.cells #[.int .i64 4, .int .i64 s, .int .i64 5, .bool false] 48))))
      obtain ⟨hg, hhg⟩ : ∃ hg, w4.heap.size = hg := ⟨_, rfl⟩
      rw [hhg] at g0 g1 g2 g3 ⊢
      clear hK4 HX3 hy hhg
      generalize w4.alloc (.cells #[.int .i64 4, .int .i64 s, .int .i64 5, .bool false] 48) = w5 at *
      go_upto_region 12 with (first | (go_at_call 10; refine (err_any _ _).mono ?_; rintro e w' ⟨rfl, rfl⟩) | (go_at_call 17; refine (pserial _ HX5.out.fst).mono ?_; rintro e w' ⟨rfl, rfl⟩))
      clear g0 g1 g2 g3
      obtain ⟨_, _, e5, _, hcs⟩ := HX5.out.snd.list.cells (by rw [HDL.out]; omega)
      cases e5
      have hcl := hcs m (by rw [HDL.out]; exact hm3)
      rw [HED.out] at hcl
      clear hcs
      go_upto_region 13 with fail
      have hy := heap_alloc_new w5 (.cells #[.int .i64 (d : Int), .int .i64 ((q : Int) + 1), .int .i64 0, .int .i64 (tj : Int), .int .i64 ((j : Int) + 1)] 3)
      have HX6 := hid (HX5.out.keep0 (Keep.alloc [] w5 (.cells #[.int .i64 (d : Int), .int .i64 ((q : Int) + 1), .int .i64 0, .int .i64 (tj : Int), .int .i64 ((j : Int) + 1)] 3)))
      obtain ⟨gg, hgg⟩ : ∃ gg, w5.heap.size = gg := ⟨_, rfl⟩
      rw [hgg] at hy ⊢
      clear hcl HX5 hgg hmi htji
      generalize w5.alloc (.cells #[.int .i64 (d : Int), .int .i64 ((q : Int) + 1), .int .i64 0, .int .i64 (tj : Int), .int .i64 ((j : Int) + 1)] 3) = w6 at *
      have HY := hid hy
      have hgl := lt_of_block hy
      clear hy
      go_wp2_with fail
      go_loopw [16] (fun i wr => ∃ k : Nat, i = .int .i64 k ∧ k ≤ 5 ∧ Hid (Keep [] w6 wr)) (fun i _ => 5 - (intOf i).toNat)
      case atStart => exact ⟨0, rfl, by omega, Keep.refl _ _⟩
      case round =>
        obtain ⟨k, rfl, hk, HK⟩ := hrel
        obtain ⟨w7, rfl⟩ : ∃ w7, w7 = wr := ⟨_, rfl⟩
        by_cases hk5 : k < 5
        · have dk : decide ((k : Int) < 5) = true := decide_eq_true (by omega)
          have dk' : decide (k < 5) = true := decide_eq_true hk5
          have HF := hid (fv_field HR.out HS2.out.fine k hk5)
          have hcw := (HK.out.cell hgl (by simp) k).trans (fv_cell HY.out k hk5)
          have hki : (k : Int) < 5 := by omega
          have hk0 : (0 : Int) ≤ k := by omega
          generalize fv (d : Int) ((q : Int) + 1) tj ((j : Int) + 1) k = y at *
          go_wp2_with fail
          refine (ofield b k y 0 _ (HX6.out.keep0 HK.out).fst.pheap HF.out).mono ?_
          rintro e w8 ⟨rfl, hK8⟩
          have hcw8 := (hK8.cell (Nat.lt_of_lt_of_le hgl HK.out.size) (by simp) k).trans hcw
          clear hcw
          go_wp2_with (first | (go_at_call 10; refine (err_any _ _).mono ?_; rintro e w' ⟨rfl, rfl⟩))
          go_roundw
          case rel => exact ⟨k + 1, by go_num, by omega, HK.out.trans hK8⟩
          case measure => simp [intOf]; omega
        · obtain rfl : k = 5 := by omega
          have HX7 := hid (HX6.out.keep0 HK.out)
          go_wp2_with fail
          go_roundw
          case rel => exact ⟨j + 1, ws2, kd2, by go_num, by omega, HS2, by simpa using HX7⟩
          case measure => simp [intOf]; omega
    · rcases (show ¬ j < n ∨ (j < n ∧ j = 20) by omega) with hjn | ⟨hjn, rfl⟩
      · have d1 : decide (j < n) = false := decide_eq_false hjn
        have d1' : decide ((j : Int) < (n : Int)) = false := decide_eq_false (by omega)
        go_wp2_with (first | (go_at_call 15; refine (awake13_any _).mono ?_; rintro e w9 ⟨rfl, hK9⟩))
        go_ret
        exact ⟨rfl, HX.out.K.trans hK9⟩
      · have d1 : decide (20 < n) = true := decide_eq_true hjn
        have d1' : decide ((20 : Int) < (n : Int)) = true := decide_eq_true (by omega)
        go_wp2_with (first | (go_at_call 15; refine (awake13_any _).mono ?_; rintro e w9 ⟨rfl, hK9⟩))
        go_ret
        exact ⟨rfl, HX.out.K.trans hK9⟩

end Go.Proofs.Ytamcoejlghfleaa.refMakes
