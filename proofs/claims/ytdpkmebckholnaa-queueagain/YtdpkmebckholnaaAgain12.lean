/-
  QueueAgain: what was polled can be pushed again, also to another queue; a row that is told is new.
-/
import Derived.Test.YtdpkmebckholnaaPart6
import Derived.Test.YtdpkmebckholnaaQueueM
import Derived.Deep.CutRange
namespace Go.Proofs.Ytdpkmebckholnaa.queueAgain
open Go.RowKit

/-- The words are those of a heap with three references. -/
structure Okay (kd : List PK) (A : Nat → Nat) (ws : List Int) : Prop where
  fine : Fine ws kd []
  refs : ∀ j, j < 3 → RefA kd ws (A j)
theorem Okay.next {kd : List PK} {A : Nat → Nat} {ws : List Int} (h : Okay kd A ws) (r : Nat) (hr : r < 3) : Okay kd A (ws.set (A r + 3) 0) :=
  ⟨(h.refs r hr).fineSet h.fine inI_0, fun j hj => (h.refs r hr).kept h.fine (h.refs j hj) 0⟩

set_option maxRecDepth 100000 in
set_option maxHeartbeats 6400000 in
theorem again_any (n q k : Nat) (w : World) (hn : n < 256) (hq : (n : Int) % 9 = q) (hk : 1 + (q : Int) = k) (hk2 : k ≤ 9) :
    Calls Try.prog 6 #[.int .u8 n] w fun e w' => e = .returned (.bool true) ∧ Keep [] w w' := by
  obtain ⟨W, K, A, hC⟩ := chain_ex 3 (by omega)
  have HC := hid hC
  have HO0 := (show Hid (Okay (K 3) A (W 3)) from ⟨(hC.fine 3 (by omega)).1, fun j hj => by obtain ⟨m, c, h⟩ := hC.refs 3 (by omega) j hj; exact ⟨m, c, h⟩⟩)
  clear hC
  go_enter Try.func6, Try.ntmps6
  go_wp2_with fail
  refine (heap12 3 3 HC.out (by omega) (by omega) _).mono ?_
  rintro e w1 ⟨hb, la, lc, rfl, hX⟩
  have HX := hid hX
  clear hX
  go_wp2_with fail
  refine (has_left_ex HX.out (fun F hF => qnew _ hF)).mono ?_
  rintro e w2 ⟨qb, rfl, hQ⟩
  have HQ := (show Hid (Has w [] ((queueA qb hb (W 3) (K 3) [] (nQ 0)).star (listA la (aL A 3))) w2) from hQ)
  clear hQ HX
  go_wp2_with fail
  refine (has_left HQ.out (fun F hF => qopen_yes _ hF (by rw [nQ_length]; omega))).mono ?_
  rintro e w3 ⟨rfl, hX3⟩
  rw [nQ_more] at hX3
  have HX3 := hid hX3
  clear hX3 HQ
  go_wp2_with fail
  refine (has_left HX3.out (fun F hF => qopen_yes _ hF (by rw [nQ_length]; omega))).mono ?_
  rintro e w4 ⟨rfl, hX4⟩
  rw [nQ_more] at hX4
  have HX4 := hid hX4
  clear hX4 HX3
  obtain ⟨lb, lo, rfl, _⟩ := HX4.out.qlen (by omega)
  go_wp2_with fail
  go_loopw [6] (fun i wr => ∃ (j : Nat) (ws : List Int), i = .int .i64 j ∧ j ≤ k ∧ Hid (Okay (K 3) A ws) ∧ Hid (Has w [] ((queueA qb hb ws (K 3) [] (nQ 2)).star (listA (some ⟨lb, lo, none⟩) (aL A 3))) wr)) (fun i _ => k - (intOf i).toNat)
  case atStart => exact ⟨0, _, rfl, by omega, HO0, HX4⟩
  case round =>
    obtain ⟨j, ws, rfl, hj, HO, HX⟩ := hrel
    obtain ⟨w5, rfl⟩ : ∃ w5, w5 = wr := ⟨_, rfl⟩
    clear HX4 HO0
    by_cases hlt : j < k
    · have hd : decide (j < k) = true := decide_eq_true hlt
      have hd' : decide ((j : Int) < (k : Int)) = true := decide_eq_true (by omega)
      obtain ⟨p, hp⟩ : ∃ p, j % 2 = p := ⟨_, rfl⟩
      obtain ⟨r, hr⟩ : ∃ r, j % 3 = r := ⟨_, rfl⟩
      have hp2 : p < 2 := by omega
      have hr3 : r < 3 := by omega
      have hpi : (j : Int) % 2 = p := by omega
      have hri : (j : Int) % 3 = r := by omega
      have hri0 : (0 : Int) ≤ r := by omega
      have hri3 : (r : Int) < 3 := by omega
      obtain ⟨_, _, e, hcs⟩ := HX.out.qlen (by omega)
      cases e
      have hc0 := hcs r hr3
      clear hcs
      obtain ⟨a, ha⟩ : ∃ a, A r = a := ⟨_, rfl⟩
      have hR := HO.out.refs r hr3
      have hO2 := HO.out.next r hr3
      have hR2 := hO2.refs r hr3
      have hO3 := hO2.next r hr3
      have hab := HC.out.bd r hr3
      rw [ha] at hR hO2 hR2 hO3 hab hc0
      have HLG := (show Hid ((nQ 2)[p]? = some []) from nQ_get 2 p hp2)
      have HLS := (show Hid (((nQ 2).set p [(a : Int)])[p]? = some [(a : Int)]) from set_at (by rw [nQ_length]; exact hp2))
      have HPU := (show Hid (PushT (K 3) ws (nQ 2) (p : Int) (a : Int) 0 (ws.set (a + 3) 0) ((nQ 2).set p [(a : Int)])) from hR.pushFirst HO.out.fine HLG.out)
      have HPO := (show Hid (PollT (K 3) (ws.set (a + 3) 0) ((nQ 2).set p [(a : Int)]) (p : Int) (a : Int) 0 ((ws.set (a + 3) 0).set (a + 3) 0) (nQ 2)) from by
        have := hR2.poll hO2.fine HLS.out
        rw [set_back HLG.out] at this
        exact this)
      have HO3 := hid hO3
      have HIN := (show Hid (inI (a : Int)) from hR.inI HO.out.fine)
      have HA := hid ha
      clear hp hr ha hR hO2 hR2 hO3
      go_wp2_with fail
      refine (has_left HX.out (fun F hF => qpush p a 0 _ _ _ hF HPU.out HIN.out (fun L hL => by unfold nQ at hL; rw [List.eq_of_mem_replicate hL]; simp))).mono ?_
      rintro e w6 ⟨rfl, hX6⟩
      have HX6 := hid hX6
      clear hX6 HX HPU
      go_wp2_with fail
      refine (qlist_yes p [(a : Int)] _ HX6.out.fst HLS.out).mono ?_
      rw [List.length_singleton]
      rintro e w7 ⟨la7, lc7, rfl, hown7, hK7⟩
      obtain ⟨g, cap, e7, _, hg, hR7⟩ := own_prow hown7 (by omega)
      cases e7
      obtain ⟨_, _, e, hcs⟩ := (HX6.out.keep0 hK7).qlen (by omega)
      cases e
      have hc7 := hcs r hr3
      rw [HA.out] at hc7
      have hx7 := hR7.cell (i := 0) (by simp)
      have hx7' : w7.cell? ⟨g, 0, none⟩ = some (.int .i64 (a : Int)) := by simpa using hx7
      clear hcs hx7 hown7
      go_wp2_with fail
      go_quiet (first | (go_at_call 11; exact Calls.quiet_of_same ((err_any _ _).mono (fun e w' h => ⟨h.1, h.2.symm⟩))))
      have hK8 := hK7.trans (Keep.drewN [] w7 nq)
      have hR8 := hR7.keep (Keep.drewN [] w7 nq) (by simp)
      generalize w7.drewN nq = w8 at *
      clear hc7 hx7' hc0 hK7 hR7
      have hx8 := hR8.cell (i := 0) (by simp)
      have hx8' : w8.cell? ⟨g, 0, none⟩ = some (.int .i64 (a : Int)) := by simpa using hx8
      have hf8 := hR8.free 0
      have hX9 : Has w [] ((queueA qb hb (ws.set (a + 3) 0) (K 3) [] ((nQ 2).set p [(a : Int)])).star (listA (some ⟨lb, lo, none⟩) (aL A 3))) (w8.setCell ⟨g, 0, none⟩ (.int .i64 (-1))) :=
        HX6.out.keep0 (((hK8.mono (T := [g]) (by simp)).trans (Keep.setCell _ _ (by simp))).drop (fun x hx hlt => by simp at hx; omega))
      have HX9 := hid hX9
      clear hX9 hx8 HX6
      go_upto_region 15 with fail
      generalize w8.setCell ⟨g, 0, none⟩ (.int .i64 (-1)) = w9 at *
      clear hx8' hf8 hR8 hK8
      go_wp2_with fail
      refine (has_left HX9.out (fun F hF => qpoll p a 0 _ _ _ hF HPO.out)).mono ?_
      rintro e w10 ⟨rfl, hX10⟩
      have HX10 := hid hX10
      clear hX10 HX9
      obtain ⟨_, _, e, hcs⟩ := HX10.out.qlen (by omega)
      cases e
      have hc10 := hcs r hr3
      rw [HA.out] at hc10
      clear hcs
      go_wp2_with (first | (go_at_call 11; refine (err_any _ _).mono ?_; rintro e w' ⟨rfl, rfl⟩))
      go_roundw
      case rel => exact ⟨j + 1, _, by go_num, by omega, HO3, HX10⟩
      case measure => simp [intOf]; omega
    · obtain rfl : j = k := by omega
      have hd' : decide ((j : Int) < (j : Int)) = false := decide_eq_false (by omega)
      go_wp2_with (first | (go_at_call 15; refine (awake12_any _).mono ?_; rintro e w9 ⟨rfl, hK9⟩))
      go_ret
      exact ⟨rfl, HX.out.K.trans hK9⟩
theorem walk (a0 : Int) (w0 : (Lit.int .u8 a0).wf = true) (w : World) :
    Calls Try.prog 6 #[.int .u8 a0] w fun e w' => e = .returned (.bool true) ∧ Keep [] w w' := by
  have h0 := bounds_u8 w0
  obtain ⟨n, rfl⟩ := Int.eq_ofNat_of_zero_le h0.1
  exact again_any n (n % 9) (1 + n % 9) w (by omega) (by omega) (by omega) (by omega)

end Go.Proofs.Ytdpkmebckholnaa.queueAgain
