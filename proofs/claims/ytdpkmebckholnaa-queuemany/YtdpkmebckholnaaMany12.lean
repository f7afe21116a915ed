/-
  QueueMany: there are as many queues as may be, and no more; what is no reference is pushed nowhere.
-/
import Derived.Test.YtdpkmebckholnaaPart6
import Derived.Test.YtdpkmebckholnaaQueueM
namespace Go.Proofs.Ytdpkmebckholnaa.queueMany
open Go.RowKit

theorem at_made_back {kd kd' : List PK} {ws : List Int} {n x y : Int} {a b p m : Nat} {k c l : Int} {f : Bool} (hw : WF kd) (hl : ws.length = 64 * kd.length) (hr : AllocR kd n (some (a, kd'))) (hb : blockI n = b) (h : At kd' ((fill0 ws a b).set a x) y p m k c l f) : p = a ∨ At kd ws y p m k c l f := by
  obtain ⟨b', hb', h1, h2, h3, h4, h5, h6, h7⟩ := hr.spec hw
  obtain rfl : b = b' := by rw [hb] at hb'; omega
  obtain ⟨q1, q2, q3⟩ := h
  rw [h7 p] at q2
  split at q2
  · cases q2; exact .inl rfl
  · refine .inr ⟨q1, q2, ?_⟩
    rw [set_get_other _ _ _ _ (by omega), fill0_get _ _ _ _ (by omega), if_neg (by assumption)] at q3
    exact q3
theorem may3 : mayH 3 0 3 false = true := by decide
theorem pages4 : pagesI (3 + 1) ≤ (1 : Nat) := by decide
/-- What the walk is told. -/
theorem many_facts {W : Nat → List Int} {K : Nat → List PK} {A : Nat → Nat} (hC : Chain 2 W K A) : ∃ (d : Nat) (ws : List Int) (kd : List PK), MakeT (K 2) (W 2) [] 3 0 3 false (d : Int) 0 ws kd ∧ Fine ws kd [] ∧ RefA kd ws (A 0) ∧
    (∀ x : Int, x ≠ (A 0 : Int) → x ≠ (A 1 : Int) → ∃ (k c l E : Int) (f : Bool), HeadT kd ws x k c l f E ∧ k ≠ 4) ∧ (d : Int) ≠ (A 0 : Int) ∧ (d : Int) ≠ (A 1 : Int) ∧ d ≤ 2560 := by
  obtain ⟨hf, hk, hfree⟩ := hC.fine 2 (by omega)
  obtain ⟨a, b, kd', t1, r1, e1, g1⟩ := make_from (kd := K 2) (ds := []) (s := 3) (K := 1) (W 2) hf.wf may3 (.other (by omega)) pages4 (by omega) (by rw [hk]; omega) hfree
  obtain ⟨f1, l1⟩ := t1.fine hf
  have hat := MakeT.at hf.wf hf.len may3 r1 e1
  obtain ⟨m0, c0, h0⟩ := hC.refs 2 (by omega) 0 (by omega)
  obtain ⟨m1, c1, h1⟩ := hC.refs 2 (by omega) 1 (by omega)
  obtain ⟨h0', d0⟩ := h0.made (x := putH 3 0 3 false) hf.wf hf.len r1 e1
  obtain ⟨h1', d1⟩ := h1.made (x := putH 3 0 3 false) hf.wf hf.len r1 e1
  have z0 := h0.facts hf.wf
  have z1 := h1.facts hf.wf
  have za := hat.facts f1.wf
  refine ⟨a, _, kd', t1, f1, ⟨m0, c0, h0'⟩, fun x hx0 hx1 => ?_, by omega, by omega, by omega⟩
  rcases at_or f1.ob x with ⟨p, m, k, c, l, f, hp, _⟩ | hn
  · refine ⟨k, c, l, 0, f, .yes p m k c l f hp, fun e => ?_⟩
    subst e
    rcases at_made_back hf.wf hf.len r1 e1 hp with e | e
    · subst e
      obtain ⟨_, _, q1, _⟩ := hp.2.2.parts
      obtain ⟨_, _, q2, _⟩ := hat.2.2.parts
      rw [q1] at q2
      omega
    · obtain ⟨j, hj, ej⟩ := hC.only 2 (by omega) _ _ _ _ _ _ _ e
      rcases (show j = 0 ∨ j = 1 by omega) with rfl | rfl
      · exact hx0 ej
      · exact hx1 ej
  · exact ⟨0, 0, 0, 2, false, .no hn, by omega⟩
theorem isq8 {k : Nat} (h : k < 8) : IsQ (nQ 8) (k : Int) := by unfold IsQ; rw [nQ_length]; omega

set_option maxRecDepth 100000 in
set_option maxHeartbeats 6400000 in
theorem many_any (n k : Nat) (at0 : Int) (w : World) (hn : n < 256) (hk : (n : Int) % 8 = k) (hk8 : k < 8) (ho : inI at0) :
    Calls Try.prog 4 #[.int .u8 n, .int .i64 at0] w fun e w' => e = .returned (.bool true) ∧ Keep [] w w' := by
  obtain ⟨W, K, A, hC⟩ := chain_ex 2 (by omega)
  obtain ⟨d, ws, kd, M1, f1, R0, hno, n0, n1, hd2⟩ := many_facts hC
  have HC := hid hC
  have HM := hid M1
  have HN := hid hno
  obtain ⟨a, ha⟩ : ∃ a, A 0 = a := ⟨_, rfl⟩
  obtain ⟨b, hb'⟩ : ∃ b, A 1 = b := ⟨_, rfl⟩
  have hab := hC.bd 0 (by omega)
  have hbb := hC.bd 1 (by omega)
  have hne := hC.ne 1 0 (by omega) (by omega)
  rw [ha] at hab hne R0 n0
  rw [hb'] at hbb hne n1
  rw [ha, hb'] at HN
  have HA := hid ha
  have HB := hid hb'
  have HD := (show Hid (PushT kd ws (nQ 8) (k : Int) (d : Int) 5 ws (nQ 8)) from by
    obtain ⟨k', c, l, E, f, h1, h2⟩ := HN.out d n0 n1
    exact .kind k' c l E f (isq8 hk8) h1 h2)
  have H8 := (show Hid (PushT kd ws (nQ 8) 8 (a : Int) 2 ws (nQ 8)) from .none (by unfold IsQ; rw [nQ_length]; omega))
  have HP := (show Hid (PushT kd ws (nQ 8) (k : Int) (a : Int) 0 (ws.set (a + 3) 0) ((nQ 8).set k [(a : Int)])) from R0.pushFirst f1 (nQ_get 8 k hk8))
  have HL := (show Hid (((nQ 8).set k [(a : Int)]).length = 8) from by show _ = _; rw [List.length_set, nQ_length])
  have HS := (show Hid (∀ L, L ∈ nQ 8 → L.length < 999999) from fun L hL => by unfold nQ at hL; rw [List.eq_of_mem_replicate hL]; simp)
  unfold inI at ho
  clear hC M1 hno ha hb' R0 f1
  go_enter Try.func4, Try.ntmps4
  go_wp2_with fail
  refine (heap12 2 2 HC.out (by omega) (by omega) _).mono ?_
  rintro e w1 ⟨hb, la, lc, rfl, hX⟩
  have HX := hid hX
  clear hX
  go_wp2_with fail
  refine (has_left_ex HX.out (fun F hF => qnew _ hF)).mono ?_
  rintro e w2 ⟨qb, rfl, hQ⟩
  have HQ := (show Hid (Has w [] ((queueA qb hb (W 2) (K 2) [] (nQ 0)).star (listA la (aL A 2))) w2) from hQ)
  clear hQ HX
  go_wp2_with fail
  go_loopw [8] (fun i wr => ∃ j : Nat, i = .int .i64 j ∧ j ≤ 8 ∧ Hid (Has w [] ((queueA qb hb (W 2) (K 2) [] (nQ j)).star (listA la (aL A 2))) wr)) (fun i _ => 8 - (intOf i).toNat)
  case atStart => exact ⟨0, rfl, by omega, HQ⟩
  case round =>
    obtain ⟨j, rfl, hj, HX⟩ := hrel
    obtain ⟨w3, rfl⟩ : ∃ w3, w3 = wr := ⟨_, rfl⟩
    clear HQ
    by_cases hlt : j < 8
    · have hd : decide ((j : Int) < 8) = true := decide_eq_true (by omega)
      go_wp2_with fail
      refine (has_left HX.out (fun F hF => qopen_yes _ hF (by rw [nQ_length]; omega))).mono ?_
      rw [nQ_length, nQ_more]
      rintro e w4 ⟨rfl, hX4⟩
      have HX4 := hid hX4
      clear hX4
      go_wp2_with (first | (go_at_call 11; refine (err_any _ _).mono ?_; rintro e w' ⟨rfl, rfl⟩))
      go_roundw
      case rel => exact ⟨j + 1, by go_num, by omega, HX4⟩
      case measure => simp [intOf]; omega
    · obtain rfl : j = 8 := by omega
      go_wp2_with fail
      refine (qopen_full _ HX.out.fst (by rw [nQ_length]; omega)).mono ?_
      rintro e w4 ⟨rfl, rfl⟩
      go_wp2_with fail
      refine (has_left HX.out (fun F hF => has_qheap hF (fun F hF => omake 3 0 3 (d : Int) 0 false _ _ _ hF HM.out))).mono ?_
      rintro e w4 ⟨rfl, hX4⟩
      have HX4 := hid hX4
      clear hX4 HX
      obtain ⟨lb, lo, rfl, hcs⟩ := HX4.out.qlen (by omega)
      have x0 := hcs 0 (by omega)
      have x1 := hcs 1 (by omega)
      rw [HA.out, Nat.add_zero] at x0
      rw [HB.out] at x1
      clear hcs
      rcases (show at0 = (a : Int) ∨ (at0 ≠ (a : Int) ∧ at0 = (b : Int)) ∨ (at0 ≠ (a : Int) ∧ at0 ≠ (b : Int)) from by omega) with rfl | ⟨g1, rfl⟩ | ⟨g1, g2⟩
      · have HO := HD
        go_upto_region 16 with fail
        go_wp2_with fail
        refine (qpoll_nil 0 _).mono ?_
        rintro e w5 ⟨rfl, rfl⟩
        go_wp2_with (first | (go_at_call 11; refine (err_any _ _).mono ?_; rintro e w' ⟨rfl, rfl⟩))
        refine (has_left HX4.out (fun F hF => qpush (k : Int) (d : Int) 5 _ _ _ hF HD.out (by unfold inI; omega) HS.out)).mono ?_
        rintro e w6 ⟨rfl, hX6⟩
        have HX6 := hid hX6
        clear hX6 HX4 x0 x1
        go_wp2_with (first | (go_at_call 11; refine (err_any _ _).mono ?_; rintro e w' ⟨rfl, rfl⟩))
        refine (has_left HX6.out (fun F hF => qpush (k : Int) _ 5 _ _ _ hF HO.out (by unfold inI; omega) HS.out)).mono ?_
        rintro e w7 ⟨rfl, hX7⟩
        have HX7 := hid hX7
        clear hX7 HX6
        obtain ⟨_, _, e, hcs⟩ := HX7.out.qlen (by omega)
        cases e
        have x0 := hcs 0 (by omega)
        rw [HA.out, Nat.add_zero] at x0
        clear hcs
        go_wp2_with (first | (go_at_call 11; refine (err_any _ _).mono ?_; rintro e w' ⟨rfl, rfl⟩))
        refine (has_left HX7.out (fun F hF => qpush 8 (a : Int) 2 _ _ _ hF H8.out (by unfold inI; omega) HS.out)).mono ?_
        rintro e w8 ⟨rfl, hX8⟩
        have HX8 := hid hX8
        clear hX8 HX7 x0
        obtain ⟨_, _, e, hcs⟩ := HX8.out.qlen (by omega)
        cases e
        have x0 := hcs 0 (by omega)
        rw [HA.out, Nat.add_zero] at x0
        clear hcs
        go_wp2_with (first | (go_at_call 11; refine (err_any _ _).mono ?_; rintro e w' ⟨rfl, rfl⟩))
        refine (has_left HX8.out (fun F hF => qpush (k : Int) (a : Int) 0 _ _ _ hF HP.out (by unfold inI; omega) HS.out)).mono ?_
        rintro e w9 ⟨rfl, hX9⟩
        have HX9 := hid hX9
        clear hX9 HX8 x0
        go_wp2_with (first | (go_at_call 11; refine (err_any _ _).mono ?_; rintro e w' ⟨rfl, rfl⟩))
        refine (qqueues _ HX9.out.fst).mono ?_
        rw [HL.out]
        rintro e w' ⟨rfl, rfl⟩
        go_wp2_with (first | (go_at_call 11; refine (err_any _ _).mono ?_; rintro e w' ⟨rfl, rfl⟩) | (go_at_call 12; refine (qpush_nil _ _ _).mono ?_; rintro e w' ⟨rfl, rfl⟩) | (go_at_call 17; refine (qqueues_nil _).mono ?_; rintro e w' ⟨rfl, rfl⟩) | (go_at_call 15; refine (awake12_any _).mono ?_; rintro e wa ⟨rfl, hKa⟩))
        go_ret
        exact ⟨rfl, HX9.out.K.trans hKa⟩
      · have HO := HD
        have e1 : ((b : Int) == (a : Int)) = false := by rw [beq_eq_false_iff_ne]; omega
        have e1' : (b == a) = false := by rw [beq_eq_false_iff_ne]; omega
        go_upto_region 16 with fail
        clear e1 e1' g1
        go_wp2_with fail
        refine (qpoll_nil 0 _).mono ?_
        rintro e w5 ⟨rfl, rfl⟩
        go_wp2_with (first | (go_at_call 11; refine (err_any _ _).mono ?_; rintro e w' ⟨rfl, rfl⟩))
        refine (has_left HX4.out (fun F hF => qpush (k : Int) (d : Int) 5 _ _ _ hF HD.out (by unfold inI; omega) HS.out)).mono ?_
        rintro e w6 ⟨rfl, hX6⟩
        have HX6 := hid hX6
        clear hX6 HX4 x0 x1
        go_wp2_with (first | (go_at_call 11; refine (err_any _ _).mono ?_; rintro e w' ⟨rfl, rfl⟩))
        refine (has_left HX6.out (fun F hF => qpush (k : Int) _ 5 _ _ _ hF HO.out (by unfold inI; omega) HS.out)).mono ?_
        rintro e w7 ⟨rfl, hX7⟩
        have HX7 := hid hX7
        clear hX7 HX6
        obtain ⟨_, _, e, hcs⟩ := HX7.out.qlen (by omega)
        cases e
        have x0 := hcs 0 (by omega)
        rw [HA.out, Nat.add_zero] at x0
        clear hcs
        go_wp2_with (first | (go_at_call 11; refine (err_any _ _).mono ?_; rintro e w' ⟨rfl, rfl⟩))
        refine (has_left HX7.out (fun F hF => qpush 8 (a : Int) 2 _ _ _ hF H8.out (by unfold inI; omega) HS.out)).mono ?_
        rintro e w8 ⟨rfl, hX8⟩
        have HX8 := hid hX8
        clear hX8 HX7 x0
        obtain ⟨_, _, e, hcs⟩ := HX8.out.qlen (by omega)
        cases e
        have x0 := hcs 0 (by omega)
        rw [HA.out, Nat.add_zero] at x0
        clear hcs
        go_wp2_with (first | (go_at_call 11; refine (err_any _ _).mono ?_; rintro e w' ⟨rfl, rfl⟩))
        refine (has_left HX8.out (fun F hF => qpush (k : Int) (a : Int) 0 _ _ _ hF HP.out (by unfold inI; omega) HS.out)).mono ?_
        rintro e w9 ⟨rfl, hX9⟩
        have HX9 := hid hX9
        clear hX9 HX8 x0
        go_wp2_with (first | (go_at_call 11; refine (err_any _ _).mono ?_; rintro e w' ⟨rfl, rfl⟩))
        refine (qqueues _ HX9.out.fst).mono ?_
        rw [HL.out]
        rintro e w' ⟨rfl, rfl⟩
        go_wp2_with (first | (go_at_call 11; refine (err_any _ _).mono ?_; rintro e w' ⟨rfl, rfl⟩) | (go_at_call 12; refine (qpush_nil _ _ _).mono ?_; rintro e w' ⟨rfl, rfl⟩) | (go_at_call 17; refine (qqueues_nil _).mono ?_; rintro e w' ⟨rfl, rfl⟩) | (go_at_call 15; refine (awake12_any _).mono ?_; rintro e wa ⟨rfl, hKa⟩))
        go_ret
        exact ⟨rfl, HX9.out.K.trans hKa⟩
      · have HO := (show Hid (PushT kd ws (nQ 8) (k : Int) at0 5 ws (nQ 8)) from by
          obtain ⟨k', c, l, E, f, h1, h2⟩ := HN.out at0 g1 g2
          exact .kind k' c l E f (isq8 hk8) h1 h2)
        have e1 : (at0 == (a : Int)) = false := by rw [beq_eq_false_iff_ne]; exact g1
        have e2 : (at0 == (b : Int)) = false := by rw [beq_eq_false_iff_ne]; exact g2
        go_upto_region 16 with fail
        clear e1 e2 g1 g2
        go_wp2_with fail
        refine (qpoll_nil 0 _).mono ?_
        rintro e w5 ⟨rfl, rfl⟩
        go_wp2_with (first | (go_at_call 11; refine (err_any _ _).mono ?_; rintro e w' ⟨rfl, rfl⟩))
        refine (has_left HX4.out (fun F hF => qpush (k : Int) (d : Int) 5 _ _ _ hF HD.out (by unfold inI; omega) HS.out)).mono ?_
        rintro e w6 ⟨rfl, hX6⟩
        have HX6 := hid hX6
        clear hX6 HX4 x0 x1
        go_wp2_with (first | (go_at_call 11; refine (err_any _ _).mono ?_; rintro e w' ⟨rfl, rfl⟩))
        refine (has_left HX6.out (fun F hF => qpush (k : Int) _ 5 _ _ _ hF HO.out (by unfold inI; omega) HS.out)).mono ?_
        rintro e w7 ⟨rfl, hX7⟩
        have HX7 := hid hX7
        clear hX7 HX6
        obtain ⟨_, _, e, hcs⟩ := HX7.out.qlen (by omega)
        cases e
        have x0 := hcs 0 (by omega)
        rw [HA.out, Nat.add_zero] at x0
        clear hcs
        go_wp2_with (first | (go_at_call 11; refine (err_any _ _).mono ?_; rintro e w' ⟨rfl, rfl⟩))
        refine (has_left HX7.out (fun F hF => qpush 8 (a : Int) 2 _ _ _ hF H8.out (by unfold inI; omega) HS.out)).mono ?_
        rintro e w8 ⟨rfl, hX8⟩
        have HX8 := hid hX8
        clear hX8 HX7 x0
        obtain ⟨_, _, e, hcs⟩ := HX8.out.qlen (by omega)
        cases e
        have x0 := hcs 0 (by omega)
        rw [HA.out, Nat.add_zero] at x0
        clear hcs
        go_wp2_with (first | (go_at_call 11; refine (err_any _ _).mono ?_; rintro e w' ⟨rfl, rfl⟩))
        refine (has_left HX8.out (fun F hF => qpush (k : Int) (a : Int) 0 _ _ _ hF HP.out (by unfold inI; omega) HS.out)).mono ?_
        rintro e w9 ⟨rfl, hX9⟩
        have HX9 := hid hX9
        clear hX9 HX8 x0
        go_wp2_with (first | (go_at_call 11; refine (err_any _ _).mono ?_; rintro e w' ⟨rfl, rfl⟩))
        refine (qqueues _ HX9.out.fst).mono ?_
        rw [HL.out]
        rintro e w' ⟨rfl, rfl⟩
        go_wp2_with (first | (go_at_call 11; refine (err_any _ _).mono ?_; rintro e w' ⟨rfl, rfl⟩) | (go_at_call 12; refine (qpush_nil _ _ _).mono ?_; rintro e w' ⟨rfl, rfl⟩) | (go_at_call 17; refine (qqueues_nil _).mono ?_; rintro e w' ⟨rfl, rfl⟩) | (go_at_call 15; refine (awake12_any _).mono ?_; rintro e wa ⟨rfl, hKa⟩))
        go_ret
        exact ⟨rfl, HX9.out.K.trans hKa⟩
theorem walk (a0 a1 : Int) (w0 : (Lit.int .u8 a0).wf = true) (w1 : (Lit.int .i64 a1).wf = true) (w : World) :
    Calls Try.prog 4 #[.int .u8 a0, .int .i64 a1] w fun e w' => e = .returned (.bool true) ∧ Keep [] w w' := by
  have h0 := bounds_u8 w0
  have h1 := bounds_i64 w1
  obtain ⟨n, rfl⟩ := Int.eq_ofNat_of_zero_le h0.1
  exact many_any n (n % 8) a1 w (by omega) (by omega) (by omega) (by unfold inI; omega)

end Go.Proofs.Ytdpkmebckholnaa.queueMany
