/-
  RefAsks: what is asked of a soft one is noted, of others nothing; a phantom tells nothing; what may not be is told, in order.
-/
import Derived.Test.YtamcoejlghfleaaPart6
import Derived.Deep.CutRange
namespace Go.Proofs.Ytamcoejlghfleaa.refAsks
open Go.RowKit

/-- One soft, one weak, one phantom, and an object of numbers. -/
structure As (kd : List PK) (ws : List Int) (d a b c : Nat) (t u : Int) : Prop where
  fine : Fine ws kd []
  obj : ∃ m, At kd ws d d m 3 0 2 false
  ra : ∃ q nx s, RF kd ws a 1 d q nx t s
  rb : ∃ q nx s, RF kd ws b 2 d q nx u s
  rc : RefC kd ws c 3
  ne : b ≠ a
section
variable {kd : List PK} {ws : List Int} {d a b c : Nat} {t u : Int}
theorem As.d0 (h : As kd ws d a b c t u) : 64 ≤ d := by
  obtain ⟨m, hA⟩ := h.obj
  exact (hA.facts h.fine.wf).2.1
theorem As.soft (h : As kd ws d a b c t u) (now : Int) (hn : inI now) : ReadT kd ws (a : Int) now d 0 (ws.set (a + 4) now) ∧ As kd (ws.set (a + 4) now) d a b c now u := by
  obtain ⟨q, nx, s, hA⟩ := h.ra
  obtain ⟨q', nx', s', hB⟩ := h.rb
  obtain ⟨m, hO⟩ := h.obj
  have hi := hA.ref.inner h.fine 3 (by omega)
  exact ⟨.soft a d rfl hA.ref hA.f0 (by have := h.d0; omega), hi.fine h.fine hn, ⟨m, (hi.at' h.fine.wf).2 hO⟩, ⟨q, nx, s, hA.set3 h.fine now⟩, ⟨q', nx', s', hB.other h.fine hA.ref h.ne (i := 3) (by omega) now⟩, h.rc.set h.fine.wf hi now, h.ne⟩
theorem As.weak (h : As kd ws d a b c t u) (now : Int) : ReadT kd ws (b : Int) now d 0 ws := by
  obtain ⟨q, nx, s, hB⟩ := h.rb
  exact .plain b 2 d rfl hB.ref (by omega) hB.f0 (.inl (by omega))
theorem As.ph (h : As kd ws d a b c t u) (now : Int) : ReadT kd ws (c : Int) now 0 0 ws := .ph c rfl h.rc
theorem As.data (h : As kd ws d a b c t u) (now : Int) : ReadT kd ws (d : Int) now 0 5 ws := by
  obtain ⟨m, hO⟩ := h.obj
  exact .kind (.no 3 0 2 0 false (.yes d m 3 0 2 false hO) (by omega))
theorem As.fa (h : As kd ws d a b c t u) : FieldT kd ws (a : Int) 3 t 0 := by
  obtain ⟨q, nx, s, hA⟩ := h.ra
  exact (hA.field h.fine).2.2.2.1
theorem As.fb (h : As kd ws d a b c t u) : FieldT kd ws (b : Int) 3 u 0 := by
  obtain ⟨q, nx, s, hB⟩ := h.rb
  exact (hB.field h.fine).2.2.2.1
theorem As.off (h : As kd ws d a b c t u) : HeadT kd ws ((d : Int) + 1) 0 0 0 false 2 := by
  obtain ⟨m, hO⟩ := h.obj
  have hm := at_room h.fine hO
  obtain ⟨_, _, _, _, _, hfd⟩ := h.fine.wf.found hO.2.1
  refine .no (fun s n e => ?_)
  have e2 : findI kd ((d : Int) + 1) = findN kd (d + 1) := find_nat kd (d + 1)
  rw [e2, hfd (d + 1) (by omega) (by omega)] at e
  cases e
  omega
end

set_option maxRecDepth 100000 in
set_option maxHeartbeats 12800000 in
theorem asks_any (t v : Nat) (w : World) (ht : t < 65536) (hv : v < 65536) :
    Calls Try.prog 4 #[.int .u16 t, .int .u16 v] w fun e w' => e = .returned (.bool true) ∧ Keep [] w w' := by
  obtain ⟨W, K, A, hC⟩ := dchain_ex 2 (by omega)
  have HC := hid hC
  obtain ⟨d, hd⟩ : ∃ a, A 0 = a := ⟨_, rfl⟩
  obtain ⟨d1, hd1⟩ : ∃ a, A 1 = a := ⟨_, rfl⟩
  have hb0 := hC.bd 0 (by omega)
  have hb1 := hC.bd 1 (by omega)
  rw [hd] at hb0
  rw [hd1] at hb1
  have HD := (show Hid (aL A 2 = [(d : Int), (d1 : Int)]) from by show _ = _; rw [← hd, ← hd1]; rfl)
  have hst := hC.st (fun j => if j = 0 then 1 else if j = 1 then 2 else 3) (fun j => if j = 2 then (d1 : Int) else (d : Int)) (fun j => if j = 1 then 0 else 1)
  rw [HD.out] at hst
  obtain ⟨a, ws1, kd1, hT1, st1, hRa, _, ba1, ba2⟩ := hst.refer (n := 1) (S := 0) (s := 1) (a := d) (qq := 0) (t := t) (by omega) (by omega) (by omega) (by omega) (by omega) (by omega) (hst.objs 0 (by simp)) (by omega) ⟨by omega, by omega⟩ ⟨by omega, by omega⟩ rfl rfl rfl
  obtain ⟨b, ws2, kd2, hT2, st2, hRb, hk2, bb1, bb2⟩ := st1.refer (n := 1) (S := 1) (s := 2) (a := d) (qq := -1) (t := t) (by omega) (by omega) (by omega) (by omega) (by omega) (by omega) (st1.objs 0 (by simp)) (by omega) ⟨by omega, by omega⟩ ⟨by omega, by omega⟩ rfl rfl rfl
  obtain ⟨c, ws3, kd3, hT3, st3, hRc, hk3, bc1, bc2⟩ := st2.refer (n := 1) (S := 2) (s := 3) (a := d1) (qq := 0) (t := t) (by omega) (by omega) (by omega) (by omega) (by omega) (by omega) (st2.objs 1 (by simp)) (by omega) ⟨by omega, by omega⟩ ⟨by omega, by omega⟩ rfl rfl rfl
  have hne : b ≠ a := fun e => by have := st2.ne 0 1 (by simp) (by simp) (by simp [e]); omega
  obtain ⟨d', m, ed, hO⟩ := st3.data 0 (by simp)
  obtain rfl : d = d' := by simp at ed; omega
  obtain ⟨now, hnow⟩ : ∃ now : Nat, t + v = now := ⟨_, rfl⟩
  have hnowi : (t : Int) + (v : Int) = now := by omega
  have HO3 := (show Hid (As kd3 ws3 d a b c t t) from ⟨st3.fine, ⟨m, hO⟩, ⟨_, _, _, hk3 _ _ _ _ _ _ _ (hk2 _ _ _ _ _ _ _ hRa)⟩, ⟨_, _, _, hk3 _ _ _ _ _ _ _ hRb⟩, hRc.ref, hne⟩)
  obtain ⟨hS4, hO4⟩ := HO3.out.soft now ⟨by omega, by omega⟩
  have HT1 := hid hT1
  have HT2 := hid hT2
  have HT3 := hid hT3
  have HS4 := hid hS4
  have HO4 := hid hO4
  have HTI := (show Hid (inI (t : Int) ∧ inI (now : Int)) from ⟨⟨by omega, by omega⟩, ⟨by omega, by omega⟩⟩)
  have hnl : now < 140000 := by omega
  clear hC hst hT1 st1 hRa hT2 st2 hRb hk2 hT3 st3 hRc hk3 hne ed hO hnow hS4 hO4 HO3 hd hd1
  go_enter Try.func4, Try.ntmps4
  go_wp2_with fail
  refine (made13 2 2 1 HC.out (by omega) (by omega) (by omega) _).mono ?_
  rintro e w1 ⟨hb, pb, qb, la, lc, rfl, hX⟩
  rw [HD.out] at hX
  have HX := hid hX
  clear hX
  obtain ⟨lb, lo, rfl, _, hcs⟩ := HX.out.snd.list.cells (by simp)
  have hc0 : w1.cell? ⟨lb, lo, none⟩ = some (.int .i64 (d : Int)) := by simpa using hcs 0 (by simp)
  clear hcs
  go_wp2_with fail
  refine (has_left HX.out (fun F hF => prefer 1 1 d 0 t a 0 1 ws1 kd1 _ hF (nQ_length 1) HT1.out ⟨by omega, by omega⟩ HTI.out.1 (by omega))).mono ?_
  rintro e w2 ⟨rfl, hX2⟩
  have HX2 := hid hX2
  clear hX2 HX hc0
  obtain ⟨_, _, e0, _, hcs⟩ := HX2.out.snd.list.cells (by simp)
  cases e0
  have hc0 : w2.cell? ⟨lb, lo, none⟩ = some (.int .i64 (d : Int)) := by simpa using hcs 0 (by simp)
  clear hcs
  go_wp2_with fail
  refine (has_left HX2.out (fun F hF => prefer 1 2 d (-1) t b 0 2 ws2 kd2 _ hF (nQ_length 1) HT2.out ⟨by omega, by omega⟩ HTI.out.1 (by omega))).mono ?_
  rintro e w3 ⟨rfl, hX3⟩
  have HX3 := hid hX3
  clear hX3 HX2 hc0
  obtain ⟨_, _, e0, _, hcs⟩ := HX3.out.snd.list.cells (by simp)
  cases e0
  have hc0 : w3.cell? ⟨lb, lo + 1, none⟩ = some (.int .i64 (d1 : Int)) := by simpa using hcs 1 (by simp)
  clear hcs
  go_wp2_with fail
  refine (has_left HX3.out (fun F hF => prefer 1 3 d1 0 t c 0 3 ws3 kd3 _ hF (nQ_length 1) HT3.out ⟨by omega, by omega⟩ HTI.out.1 (by omega))).mono ?_
  rintro e w4 ⟨rfl, hX4⟩
  have HX4 := hid hX4
  clear hX4 HX3 hc0 HT1 HT2 HT3
  go_upto_region 10 with (first | (go_at_call 10; refine (err_any _ _).mono ?_; rintro e w' ⟨rfl, rfl⟩))
  go_wp2_with fail
  refine (has_left HX4.out (fun F hF => pread a now d 0 _ _ hF HS4.out HTI.out.2)).mono ?_
  rintro e w5 ⟨rfl, hX5⟩
  have HX5 := hid hX5
  clear hX5 HX4 HS4
  go_wp2_with fail
  refine (has_left HX5.out (fun F hF => pread b now d 0 _ _ hF (HO4.out.weak _) HTI.out.2)).mono ?_
  rintro e w6 ⟨rfl, hX6⟩
  have HX6 := hid hX6
  clear hX6 HX5
  go_wp2_with fail
  refine (has_left HX6.out (fun F hF => pread c now 0 0 _ _ hF (HO4.out.ph _) HTI.out.2)).mono ?_
  rintro e w7 ⟨rfl, hX7⟩
  have HX7 := hid hX7
  clear hX7 HX6
  go_wp2_with fail
  refine (ofield a 3 now 0 _ HX7.out.fst.pheap HO4.out.fa).mono ?_
  rintro e w8 ⟨rfl, hK8⟩
  have HX8 := hid (HX7.out.keep0 hK8)
  clear hK8 HX7
  go_wp2_with fail
  refine (ofield b 3 t 0 _ HX8.out.fst.pheap HO4.out.fb).mono ?_
  rintro e w9 ⟨rfl, hK9⟩
  have HX9 := hid (HX8.out.keep0 hK9)
  clear hK9 HX8
  go_wp2_with fail
  refine (has_left HX9.out (fun F hF => prefer 1 0 0 9 0 0 1 3 _ _ _ hF (nQ_length 1) (.may 1 (.str (by omega)) (by omega)) inI_0 inI_0 (by omega))).mono ?_
  rintro e w10 ⟨rfl, hX10⟩
  have HX10 := hid hX10
  clear hX10 HX9
  go_wp2_with fail
  refine (has_left HX10.out (fun F hF => prefer 1 2 0 9 0 0 2 3 _ _ _ hF (nQ_length 1) (.may 2 (.none (by omega) (by omega) (by omega)) (by omega)) inI_0 inI_0 (by omega))).mono ?_
  rintro e w11 ⟨rfl, hX11⟩
  have HX11 := hid hX11
  clear hX11 HX10
  go_wp2_with fail
  refine (has_left HX11.out (fun F hF => prefer 1 3 0 (-1) 0 0 1 3 _ _ _ hF (nQ_length 1) (.may 1 (.ph rfl rfl) (by omega)) inI_0 inI_0 (by omega))).mono ?_
  rintro e w12 ⟨rfl, hX12⟩
  have HX12 := hid hX12
  clear hX12 HX11
  obtain ⟨_, _, e0, _, hcs⟩ := HX12.out.snd.list.cells (by simp)
  cases e0
  have hc0 : w12.cell? ⟨lb, lo, none⟩ = some (.int .i64 (d : Int)) := by simpa using hcs 0 (by simp)
  clear hcs
  go_wp2_with fail
  refine (has_left HX12.out (fun F hF => prefer 1 2 ((d : Int) + 1) (-1) 0 0 2 3 _ _ _ hF (nQ_length 1) (.may 2 (.head 0 0 0 2 false (by omega) (by omega) (by omega) (by omega) (by omega) HO4.out.off) (by omega)) ⟨by omega, by omega⟩ inI_0 (by omega))).mono ?_
  rintro e w13 ⟨rfl, hX13⟩
  have HX13 := hid hX13
  clear hX13 HX12 hc0
  obtain ⟨_, _, e0, _, hcs⟩ := HX13.out.snd.list.cells (by simp)
  cases e0
  have hc0 : w13.cell? ⟨lb, lo, none⟩ = some (.int .i64 (d : Int)) := by simpa using hcs 0 (by simp)
  clear hcs
  go_wp2_with fail
  refine (has_left HX13.out (fun F hF => pread d 1 0 5 _ _ hF (HO4.out.data _) ⟨by omega, by omega⟩)).mono ?_
  rintro e w14 ⟨rfl, hX14⟩
  have HX14 := hid hX14
  clear hX14 HX13 hc0
  go_wp2_with fail
  refine (pread_nil 64 1 _).mono ?_
  rintro e w15 ⟨rfl, hK15⟩
  have HX15 := hid (HX14.out.keep0 hK15)
  clear hK15 HX14
  obtain ⟨_, _, e0, _, hcs⟩ := HX15.out.snd.list.cells (by simp)
  cases e0
  have hc0 : w15.cell? ⟨lb, lo, none⟩ = some (.int .i64 (d : Int)) := by simpa using hcs 0 (by simp)
  clear hcs
  go_wp2_with (first
    | (go_at_call 9; refine (prefer_nil 2 64 (-1) 0 _).mono ?_; rintro e w' ⟨rfl, rfl⟩)
    | (go_at_call 10; refine (err_any _ _).mono ?_; rintro e w' ⟨rfl, rfl⟩)
    | (go_at_call 17; refine (pserial_nil _).mono ?_; rintro e w' ⟨rfl, rfl⟩)
    | (go_at_call 17; refine (pserial _ HX15.out.fst).mono ?_; rintro e w' ⟨rfl, rfl⟩)
    | (go_at_call 18; refine (pnew_nil _).mono ?_; rintro e w' ⟨rfl, rfl⟩)
    | (go_at_call 15; refine (awake13_any _).mono ?_; rintro e w16 ⟨rfl, hK16⟩))
  go_ret
  exact ⟨rfl, HX15.out.K.trans hK16⟩
theorem walk (a0 a1 : Int) (w0 : (Lit.int .u16 a0).wf = true) (w1 : (Lit.int .u16 a1).wf = true) (w : World) :
    Calls Try.prog 4 #[.int .u16 a0, .int .u16 a1] w fun e w' => e = .returned (.bool true) ∧ Keep [] w w' := by
  have h0 := bounds_u16 w0
  have h1 := bounds_u16 w1
  obtain ⟨t, rfl⟩ := Int.eq_ofNat_of_zero_le h0.1
  obtain ⟨v, rfl⟩ := Int.eq_ofNat_of_zero_le h1.1
  exact asks_any t v w (by omega) (by omega)

end Go.Proofs.Ytamcoejlghfleaa.refAsks
