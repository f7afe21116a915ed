/-
  RefOnce: a reference is put to its queue once, however often it is asked to be.
-/
import Derived.Test.YtamcoejlghfleaaPart6
import Derived.Deep.CutBlock
import Derived.Deep.CutRange
namespace Go.Proofs.Ytamcoejlghfleaa.refOnce
open Go.RowKit

/-- One that went, and one without a queue. -/
structure On (kd : List PK) (ws : List Int) (a b : Nat) (c d : Int) : Prop where
  fine : Fine ws kd []
  ra : ∃ nx s t, RF kd ws a c 0 (-1) nx s t
  rb : ∃ r nx s t, RF kd ws b d r 0 nx s t
  ne : a ≠ b
section
variable {kd : List PK} {ws : List Int} {a b : Nat} {c d : Int}
theorem On.setA (h : On kd ws a b c d) : On kd (ws.set (a + 1) 0) a b c d := by
  obtain ⟨nx, s, t, hA⟩ := h.ra
  obtain ⟨r, nx', s', t', hB⟩ := h.rb
  exact ⟨(hA.ref.inner h.fine 0 (by omega)).fine h.fine inI_0, ⟨_, _, _, hA.set0 h.fine 0⟩, ⟨_, _, _, _, hB.other h.fine hA.ref (fun e => h.ne e.symm) (i := 0) (by omega) 0⟩, h.ne⟩
theorem On.setN (h : On kd ws a b c d) : On kd (ws.set (a + 3) 0) a b c d := by
  obtain ⟨nx, s, t, hA⟩ := h.ra
  obtain ⟨r, nx', s', t', hB⟩ := h.rb
  exact ⟨(hA.ref.inner h.fine 2 (by omega)).fine h.fine inI_0, ⟨_, _, _, hA.set2 h.fine 0⟩, ⟨_, _, _, _, hB.other h.fine hA.ref (fun e => h.ne e.symm) (i := 2) (by omega) 0⟩, h.ne⟩
theorem On.setB (h : On kd ws a b c d) : On kd (ws.set (b + 1) 0) a b c d := by
  obtain ⟨nx, s, t, hA⟩ := h.ra
  obtain ⟨r, nx', s', t', hB⟩ := h.rb
  exact ⟨(hB.ref.inner h.fine 0 (by omega)).fine h.fine inI_0, ⟨_, _, _, hA.other h.fine hB.ref h.ne (i := 0) (by omega) 0⟩, ⟨_, _, _, _, hB.set0 h.fine 0⟩, h.ne⟩
theorem On.enqA (h : On kd ws a b c d) (Ls : List (List Int)) : EnqT kd ws Ls (a : Int) false 0 (ws.set (a + 1) 0) Ls := by
  obtain ⟨nx, s, t, hA⟩ := h.ra
  exact .no a c rfl hA.ref (by rw [hA.f1]; omega)
theorem On.enqB (h : On kd ws a b c d) (Ls : List (List Int)) : EnqT kd ws Ls (b : Int) false 0 (ws.set (b + 1) 0) Ls := by
  obtain ⟨r, nx, s, t, hB⟩ := h.rb
  exact .no b d rfl hB.ref (by rw [hB.f1]; omega)
theorem On.read (h : On kd ws a b c d) : ReadT kd ws (a : Int) 5 0 0 ws := by
  obtain ⟨nx, s, t, hA⟩ := h.ra
  by_cases hc : c = 3
  · subst hc; exact .ph a rfl hA.ref
  · exact .plain a c 0 rfl hA.ref hc hA.f0 (.inr rfl)
theorem On.poll (h : On kd ws a b c d) : PollT kd ws [[(a : Int)]] 0 a 0 (ws.set (a + 3) 0) [[]] := by
  obtain ⟨nx, s, t, hA⟩ := h.ra
  exact hA.ref.refA.poll h.fine (j := 0) (L := []) rfl
theorem on_enq {r nx s t r' nx' s' t' : Int} (hf : Fine ws kd []) (hA : RF kd ws a c r 1 nx s t) (hB : RF kd ws b d r' 0 nx' s' t') (hne : a ≠ b) : ∃ ws', EnqT kd ws (nQ 1) (a : Int) true 0 ws' [[(a : Int)]] ∧ On kd ws' a b c d := by
  have f1 := (hA.ref.inner hf 0 (by omega)).fine hf inI_0
  have a1 := hA.set0 hf 0
  have b1 := hB.other hf hA.ref (fun e => hne e.symm) (i := 0) (by omega) 0
  have f2 := (a1.ref.inner f1 2 (by omega)).fine f1 inI_0
  have a2 := a1.set2 f1 0
  have b2 := b1.other f1 a1.ref (fun e => hne e.symm) (i := 2) (by omega) 0
  have f3 := (a2.ref.inner f2 1 (by omega)).fine f2 (x := -1) ⟨by omega, by omega⟩
  have a3 := a2.set1 f2 (-1)
  have b3 := b2.other f2 a2.ref (fun e => hne e.symm) (i := 1) (by omega) (-1)
  exact ⟨_, .yes a c 1 0 _ _ rfl hA.ref hA.f1 (by omega) (a1.ref.refA.pushFirst f1 (j := 0) (Ls := nQ 1) rfl) a2.ref, f3, ⟨_, _, _, a3⟩, ⟨_, _, _, _, b3⟩, hne⟩
end
/-- What is in the queue. -/
def rowP (p : Bool) (a : Nat) : List Int := if p then [] else [(a : Int)]

set_option maxRecDepth 100000 in
set_option maxHeartbeats 6400000 in
theorem once_any (s n r3 r2 k : Nat) (c1 c2 : Int) (p : Bool) (w : World) (hs : s < 256) (hn : n < 256) (h3 : (s : Int) % 3 = r3) (h2 : (s : Int) % 2 = r2) (e1 : 1 + (r3 : Int) = c1) (e2 : 1 + (r2 : Int) = c2) (hk : (n : Int) % 9 = k) :
    Calls Try.prog 3 #[.int .u8 s, .int .u8 n, .bool p] w fun e w' => e = .returned (.bool true) ∧ Keep [] w w' := by
  obtain ⟨W, K, A, hC⟩ := dchain_ex 1 (by omega)
  have HC := hid hC
  obtain ⟨a0, ha0⟩ : ∃ a, A 0 = a := ⟨_, rfl⟩
  have hab := hC.bd 0 (by omega)
  have HA0 := hid ha0
  have hst := hC.st (fun j => if j = 0 then c1 else c2) (fun _ => (a0 : Int)) (fun j => if j = 0 then 1 else 0)
  have hd0 := hst.objs 0 (by rw [aL_length]; omega)
  rw [aL_get A 1 0 (by omega), ha0] at hd0
  rw [ha0] at hab
  obtain ⟨a, ws1, kd1, hT1, st1, _, _, ba1, ba2⟩ := hst.refer (n := 1) (S := 0) (s := c1) (a := a0) (qq := 0) (t := 1) (by omega) (by omega) (by omega) (by omega) (by omega) (by omega) hd0 (by omega) ⟨by omega, by omega⟩ ⟨by omega, by omega⟩ rfl rfl rfl
  have hd1 := st1.objs 0 (by rw [aL_length]; omega)
  rw [aL_get A 1 0 (by omega), ha0] at hd1
  obtain ⟨b, ws2, kd2, hT2, st2, hRb, _, bb1, bb2⟩ := st1.refer (n := 1) (S := 1) (s := c2) (a := a0) (qq := -1) (t := 1) (by omega) (by omega) (by omega) (by omega) (by omega) (by omega) hd1 (by omega) ⟨by omega, by omega⟩ ⟨by omega, by omega⟩ rfl rfl rfl
  obtain ⟨nx, s', t', hRa⟩ : ∃ nx s' t', RF kd2 ws2 a c1 a0 1 nx s' t' := st2.at' (j := 0) (by simp) rfl
  have hne : a ≠ b := fun e => by have := st2.ne 0 1 (by simp) (by simp) (by simp [e]); omega
  obtain ⟨ws3, hE3, hO3⟩ := on_enq st2.fine hRa hRb hne
  have HT1 := hid hT1
  have HT2 := hid hT2
  have HE3 := hid hE3
  have HO3 := hid hO3
  have hc1 : 1 ≤ c1 ∧ c1 ≤ 3 := by omega
  have hc2 : 1 ≤ c2 ∧ c2 ≤ 2 := by omega
  have HAI := (show Hid (inI (a : Int) ∧ inI (b : Int)) from ⟨⟨by omega, by omega⟩, ⟨by omega, by omega⟩⟩)
  clear hC hst hd0 hT1 st1 hd1 hT2 st2 hRb hRa hne hE3 hO3 ha0
  go_enter Try.func3, Try.ntmps3
  go_wp2_with fail
  refine (made13 1 1 1 HC.out (by omega) (by omega) (by omega) _).mono ?_
  rintro e w1 ⟨hb, pb, qb, la, lc, rfl, hX⟩
  have HX := hid hX
  clear hX
  obtain ⟨lb, lo, rfl, _, hcs⟩ := HX.out.snd.list.cells (by rw [aL_length]; omega)
  have hc0 := hcs 0 (by rw [aL_length]; omega)
  rw [aL_get A 1 0 (by omega), HA0.out, Nat.add_zero] at hc0
  have hl0 := lt_of_cell2' hc0
  clear hcs
  go_wp2_with fail
  refine (has_left HX.out (fun F hF => prefer 1 c1 a0 0 1 a 0 1 ws1 kd1 _ hF (nQ_length 1) HT1.out ⟨by omega, by omega⟩ ⟨by omega, by omega⟩ (by omega))).mono ?_
  rintro e w2 ⟨rfl, hX2⟩
  obtain ⟨_, _, e0, _, hcs⟩ := hX2.snd.list.cells (by rw [aL_length]; omega)
  cases e0
  have hc02 := hcs 0 (by rw [aL_length]; omega)
  rw [aL_get A 1 0 (by omega), HA0.out, Nat.add_zero] at hc02
  have HX2 := hid hX2
  clear hX2 HX hc0 hcs hl0
  go_wp2_with fail
  refine (prefer 1 c2 a0 (-1) 1 b 0 2 ws2 kd2 _ HX2.out.fst (nQ_length 1) HT2.out ⟨by omega, by omega⟩ ⟨by omega, by omega⟩ (by omega)).mono ?_
  rintro e w3 ⟨rfl, hX3⟩
  have HX3 := hid hX3
  clear hX3 HX2 hc02 h3 h2 e1 e2
  go_upto_region 8 with (first | (go_at_call 10; refine (err_any _ _).mono ?_; rintro e w' ⟨rfl, rfl⟩))
  go_wp2_with fail
  refine (penq a 0 true ws3 _ _ HX3.out HE3.out HAI.out.1 (fun L hL => by unfold nQ at hL; rw [List.eq_of_mem_replicate hL]; simp)).mono ?_
  rintro e w4 ⟨rfl, hX4⟩
  have HX4 := hid hX4
  clear hX4 HX3
  go_upto_if 78 with (first | (go_at_call 10; refine (err_any _ _).mono ?_; rintro e w' ⟨rfl, rfl⟩))
  go_cut [] from 16 to 17 (fun wz => Hid (∃ ws, On kd2 ws a b c1 c2 ∧ Has w [] (prefA pb qb hb 2 ws kd2 [] [rowP p a]) wz))
  case first =>
    cases p
    · go_wp2_with fail
      go_meet
      exact ⟨ws3, HO3.out, HX4.out⟩
    · obtain ⟨c0, _, _, _⟩ := HX4.out.pcells
      go_wp2_with fail
      refine (has_pqueue HX4.out (fun F hF => qpoll 0 a 0 _ _ _ hF HO3.out.poll)).mono ?_
      rintro e w5 ⟨rfl, hX5⟩
      have HX5 := hid hX5
      clear hX5 HX4 c0
      go_wp2_with (first | (go_at_call 10; refine (err_any _ _).mono ?_; rintro e w' ⟨rfl, rfl⟩))
      go_meet
      exact ⟨_, HO3.out.setN, HX5.out⟩
  case rest =>
    obtain ⟨ws4, hO4, hX5⟩ := hcut.out
    have HO4 := hid hO4
    have HX5 := hid hX5
    clear hcut hO4 hX5 HX4
    go_wp2_with fail
    go_loopw [18] (fun i wr => ∃ (j : Nat) (ws : List Int), i = .int .i64 j ∧ j ≤ k ∧ Hid (On kd2 ws a b c1 c2) ∧ Hid (Has w [] (prefA pb qb hb 2 ws kd2 [] [rowP p a]) wr)) (fun i _ => k - (intOf i).toNat)
    case atStart => exact ⟨0, ws4, rfl, by omega, HO4, HX5⟩
    case round =>
      obtain ⟨j, ws, rfl, hj, HO, HX⟩ := hrel
      obtain ⟨w6, rfl⟩ : ∃ w6, w6 = wr := ⟨_, rfl⟩
      clear HO4 HX5
      have HL := (show Hid (∀ L, L ∈ [rowP p a] → L.length < 999999) from fun L hL => by
        obtain rfl := List.mem_singleton.1 hL
        unfold rowP; split <;> simp)
      by_cases hlt : j < k
      · have hd : decide (j < k) = true := decide_eq_true hlt
        have hd' : decide ((j : Int) < (k : Int)) = true := decide_eq_true (by omega)
        go_wp2_with fail
        refine (penq a 0 false _ _ _ HX.out (HO.out.enqA _) HAI.out.1 HL.out).mono ?_
        rintro e w7 ⟨rfl, hX7⟩
        have HX7 := hid hX7
        clear hX7 HX
        go_wp2_with fail
        refine (penq b 0 false _ _ _ HX7.out (HO.out.setA.enqB _) HAI.out.2 HL.out).mono ?_
        rintro e w8 ⟨rfl, hX8⟩
        have HX8 := hid hX8
        clear hX8 HX7
        go_wp2_with (first | (go_at_call 10; refine (err_any _ _).mono ?_; rintro e w' ⟨rfl, rfl⟩))
        go_roundw
        case rel => exact ⟨j + 1, _, by go_num, by omega, HO.out.setA.setB, HX8⟩
        case measure => simp [intOf]; omega
      · obtain rfl : j = k := by omega
        have hd : decide (j < j) = false := decide_eq_false (by omega)
        have hd' : decide ((j : Int) < (j : Int)) = false := decide_eq_false (by omega)
        go_wp2_with fail
        refine (pread a 5 0 0 _ _ HX.out HO.out.read ⟨by omega, by omega⟩).mono ?_
        rintro e w7 ⟨rfl, hX7⟩
        have HX7 := hid hX7
        clear hX7 HX
        obtain ⟨c0, _, _, _⟩ := HX7.out.pcells
        go_wp2_with fail
        refine (qlist_yes 0 (rowP p a) _ HX7.out.snd rfl).mono ?_
        rintro e w8 ⟨lz, lcz, rfl, _, hK8⟩
        have HX8 := hid (HX7.out.keep0 hK8)
        clear c0 hK8 HX7
        cases p
        all_goals
          go_wp2_with (first | (go_at_call 10; refine (err_any _ _).mono ?_; rintro e w' ⟨rfl, rfl⟩) | (go_at_call 15; refine (awake13_any _).mono ?_; rintro e w9 ⟨rfl, hK9⟩))
          go_ret
          exact ⟨rfl, HX8.out.K.trans hK9⟩
theorem walk (a0 a1 : Int) (p : Bool) (w0 : (Lit.int .u8 a0).wf = true) (w1 : (Lit.int .u8 a1).wf = true) (w : World) :
    Calls Try.prog 3 #[.int .u8 a0, .int .u8 a1, .bool p] w fun e w' => e = .returned (.bool true) ∧ Keep [] w w' := by
  have h0 := bounds_u8 w0
  have h1 := bounds_u8 w1
  obtain ⟨s, rfl⟩ := Int.eq_ofNat_of_zero_le h0.1
  obtain ⟨n, rfl⟩ := Int.eq_ofNat_of_zero_le h1.1
  exact once_any s n (s % 3) (s % 2) (n % 9) _ _ p w (by omega) (by omega) (by omega) (by omega) rfl rfl (by omega)

end Go.Proofs.Ytamcoejlghfleaa.refOnce
