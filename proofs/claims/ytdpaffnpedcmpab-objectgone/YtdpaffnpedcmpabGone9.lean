/-
  ObjectGone: what is freed is no object any more; its room is another one's, whose fields are 0; two heaps do not touch one another.
-/
import Derived.Test.YtdpaffnpedcmpabAwake9
import Derived.Test.YtdpaffnpedcmpabEach9
namespace Go.Proofs.Ytdpaffnpedcmpab.objectGone
open Go.RowKit

theorem fresh_of {kd : List PK} (h : WF kd) (hn : ∀ x, findN kd x = none) : kd = freshK kd.length := by
  have h1 := h.len1
  have hk : ∀ p, kat kd p = kat (freshK kd.length) p := by
    intro p
    rw [freshK_at _ _ h1]
    split
    · rename_i e; subst e; exact h.zero
    · rename_i e
      cases hp : kat kd p with
      | zero => exact absurd (h.only p hp) e
      | free => rfl
      | small c xs =>
        exfalso
        obtain ⟨hc, hl, i, hi⟩ := h.small p c xs hp
        have hil : i < xs.length := by
          rcases Nat.lt_or_ge i xs.length with g | g
          · exact g
          · rw [List.getElem?_eq_none g] at hi; cases hi
        have hx := hn (64 * p + i * sz c)
        have hb : i * sz c < 64 ∧ i * sz c / sz c = i := by
          refine ⟨?_, Nat.mul_div_cancel _ (sz_pos c)⟩
          have := (sz_facts c hc)
          rw [hl] at hil
          rcases sz_cases c hc with ⟨e1, e2⟩ | ⟨e1, e2⟩ | ⟨e1, e2⟩ | ⟨e1, e2⟩ | ⟨e1, e2⟩ <;> rw [e1] <;> rw [e2] at hil <;> omega
        have ep : (64 * p + i * sz c) / 64 = p := by omega
        have em : (64 * p + i * sz c) % 64 = i * sz c := by omega
        rw [find_small kd _ c xs (by rw [ep]; exact hp), em, hb.2, if_pos hi] at hx
        cases hx
      | part j k =>
        exfalso
        have hx := hn (64 * p)
        rw [find_part kd _ j k (by rw [show 64 * p / 64 = p by omega]; exact hp)] at hx
        cases hx
  refine List.ext_getElem (by rw [freshK_length]) (fun i h1 h2 => ?_)
  have := hk i
  unfold kat at this
  rw [List.getElem?_eq_getElem h1, List.getElem?_eq_getElem h2] at this
  exact this

theorem _root_.Go.Proofs.Ytdpaffnpedcmpab.Has.beside {w0 w w' : World} {A B : Asn} {F0 : List Nat} (h : Has w0 F0 A w) (g : Has w [] B w') : Has w0 F0 (A.star B) w' := by
  obtain ⟨G, g1, g2⟩ := g
  exact h.more g2.keep g1 (fun k e => (g2.grow k e).resolve_left (by simp))

theorem pages2 (l : Nat) (h : l ≤ 100) : pagesI ((l : Int) + 1) ≤ (2 : Nat) := by
  unfold pagesI; split <;> (try split) <;> omega
theorem fresh_make (k : Nat) (h1 : 1 ≤ k) (h2 : k ≤ 100) (ws : List Int) (hl : ws.length = 64 * 20) (kk : Int) (hm : mayH kk 0 k false = true) (hk : kk ≠ 1) :
    ∃ (b : Nat) (kd : List PK), AllocR (freshK 20) ((k : Int) + 1) (some (64, kd)) ∧ blockI ((k : Int) + 1) = b ∧ (k : Int) + 1 ≤ b ∧ b ≤ 1024 ∧ kd.length = 20 ∧ WF kd ∧ (eachK kd).length = 1 ∧
      MakeT (freshK 20) ws [] kk 0 k false (64 : Nat) 0 ((fill0 ws 64 b).set 64 (putH kk 0 k false)) kd ∧ At kd ((fill0 ws 64 b).set 64 (putH kk 0 k false)) (64 : Nat) 64 b kk 0 k false ∧ 64 + b ≤ 64 * 20 ∧
      (∀ x, findN kd x = if 64 ≤ x ∧ x < 64 + b then some (64, b) else none) := by
  have hg := room_ge ((k : Int) + 1) (by omega) (by omega)
  have hw : WF (freshK 20) := freshK_wf 20 (by omega) (by omega)
  obtain ⟨b, hb⟩ := Int.eq_ofNat_of_zero_le (show 0 ≤ blockI ((k : Int) + 1) by omega)
  have hp := pages2 k h2
  have hb2 : b ≤ 128 := by
    have : blockI ((k : Int) + 1) ≤ 128 := by
      clear hb hg hm
      unfold blockI classI pagesI sizesL
      repeat' split
      all_goals (simp at *; try omega)
    omega
  obtain ⟨kd, hr⟩ := fresh_alloc 20 b ((k : Int) + 1) hb (by omega) (by omega) (by omega)
  obtain ⟨b', hb', e1, e2, e3, e4, e5, e6, e7⟩ := hr.spec hw
  obtain rfl : b = b' := by rw [hb] at hb'; omega
  rw [freshK_length] at e3
  refine ⟨b, kd, hr, hb, by omega, by omega, e3, e2, ?_, .yes 64 b kd hm rfl (.other hk) hr hb, MakeT.at hw (by rw [freshK_length]; exact hl) hm hr hb, by omega, fun x => ?_⟩
  · rw [hr.count hw, each_fresh 20 (by omega)]; rfl
  · rw [e7]
    split
    · rfl
    · exact freshK_find 20 x (by omega)

theorem at_set {kd : List PK} {ws : List Int} {k c l x : Int} {a m i : Nat} {f : Bool} (h : At kd ws a a m k c l f) (hi : i ≠ a) : At kd (ws.set i x) a a m k c l f := by
  obtain ⟨h1, h2, h3⟩ := h
  exact ⟨h1, h2, by rw [set_get_other _ _ _ _ hi]; exact h3⟩

/-- What the walk is told. -/
theorem gone_facts (k : Nat) (h1 : 1 ≤ k) (h2 : k ≤ 100) : ∃ (kd : List PK) (ws1 ws2 : List Int), MakeT (freshK 20) (zeros (64 * 20)) [] 3 0 k false 64 0 ws1 kd ∧ MakeT (freshK 20) (zeros (64 * 20)) [] 2 0 k false 64 0 ws2 kd ∧ (eachK kd).length = 1 ∧ HeadT kd ws2 64 2 0 k false 0 ∧
    ∃ P : List Int → Prop, P ws1 ∧ (∀ (ws : List Int) (m : Nat) (x : Int), P ws → m < k → ∃ ws', PutT kd ws 64 m x 0 ws' ∧ P ws') ∧ (∀ ws, P ws → FreeT kd 64 0 (freshK 20) ∧
      ∃ ws3, MakeT (freshK 20) ws [] 2 0 k false 64 0 ws3 kd ∧ ∀ m : Nat, m < k → FieldT kd ws3 64 m 0 0) := by
  obtain ⟨b, kd, r, e, e1, e2, e3, e4, e5, m1, a1, e6, e7⟩ := fresh_make k h1 h2 (zeros (64 * 20)) (by rw [zeros_length]) 3 (may_data k (by omega) (by omega)) (by omega)
  have m2 : MakeT (freshK 20) (zeros (64 * 20)) [] 2 0 k false (64 : Nat) 0 ((fill0 (zeros (64 * 20)) 64 b).set 64 (putH 2 0 k false)) kd := .yes 64 b kd (may_refs k (by omega) (by omega)) rfl (.other (by omega)) r e
  have a2 : At kd ((fill0 (zeros (64 * 20)) 64 b).set 64 (putH 2 0 k false)) (64 : Nat) 64 b 2 0 k false := MakeT.at (freshK_wf 20 (by omega) (by omega)) (by rw [freshK_length, zeros_length]) (may_refs k (by omega) (by omega)) r e
  refine ⟨kd, _, _, m1, m2, e5, .yes 64 b 2 0 k false a2, fun ws => At kd ws (64 : Nat) 64 b 3 0 k false ∧ ws.length = 64 * 20, ⟨a1, by rw [List.length_set, fill0_length _ _ _ (by rw [zeros_length]; omega), zeros_length]⟩, ?_, ?_⟩
  · rintro ws m x ⟨ha, hl⟩ hm
    exact ⟨_, .yes (64 + 1 + m) (.yes 64 b m 3 0 k false ha rfl (by omega) (by omega)) (by omega), at_set ha (by omega), by rw [List.length_set]; exact hl⟩
  · rintro ws ⟨ha, hl⟩
    obtain ⟨kd', hf⟩ := FreeR.ex e4 ha.2.1
    obtain ⟨g1, g2, g3⟩ := hf.spec e4 ha.2.1
    have hkd : kd' = freshK 20 := by
      have := fresh_of g1 (fun x => by
        rw [g3]
        split
        · rfl
        · rw [e7, if_neg (by assumption)])
      rw [g2, e3] at this
      exact this
    subst hkd
    refine ⟨.yes 64 b _ rfl ha.2.1 hf, _, .yes 64 b kd (may_refs k (by omega) (by omega)) rfl (.other (by omega)) r e, fun m hm => ?_⟩
    have a3 : At kd ((fill0 ws 64 b).set 64 (putH 2 0 k false)) (64 : Nat) 64 b 2 0 k false := MakeT.at (freshK_wf 20 (by omega) (by omega)) (by rw [freshK_length]; exact hl) (may_refs k (by omega) (by omega)) r e
    have := FieldT.yes (kd := kd) (ws := (fill0 ws 64 b).set 64 (putH 2 0 k false)) (a := 64) (i := m) (64 + 1 + m) (.yes 64 b m 2 0 k false a3 rfl (by omega) (by omega)) (by rw [List.length_set, fill0_length _ _ _ (by omega)]; omega)
    rw [set_get_other _ _ _ _ (by omega), fill0_get _ _ _ _ (by omega), if_pos (by omega)] at this
    exact this

set_option maxRecDepth 100000 in
set_option maxHeartbeats 6400000 in
theorem gone_any (n : Nat) (x : Int) (w : World) (hn : n < 256) (hx : inI x) :
    Calls Try.prog 3 #[.int .u8 n, .int .i64 x] w fun e w' => e = .returned (.bool true) ∧ Keep [] w w' := by
  obtain ⟨r, hr⟩ : ∃ r : Nat, n % 100 = r := ⟨_, rfl⟩
  obtain ⟨k, hk⟩ : ∃ k : Nat, 1 + r = k := ⟨_, rfl⟩
  have hk2 : k ≤ 100 := by omega
  have hk1 : 1 ≤ k := by omega
  obtain ⟨kd, ws1, ws2, M1, M2, E1, H1, P, P1, P2, P3⟩ := gone_facts k hk1 hk2
  have HM1 := (show Hid (MakeT (freshK 20) (zeros (64 * 20)) [] 3 0 k false 64 0 ws1 kd) from M1)
  have HM2 := (show Hid (MakeT (freshK 20) (zeros (64 * 20)) [] 2 0 k false 64 0 ws2 kd) from M2)
  have HE1 := (show Hid ((eachK kd).length = 1) from E1)
  have HH1 := (show Hid (HeadT kd ws2 64 2 0 k false 0) from H1)
  have HP1 := (show Hid (P ws1) from P1)
  have HP2 := (show Hid (∀ (ws : List Int) (m : Nat) (x : Int), P ws → m < k → ∃ ws', PutT kd ws 64 m x 0 ws' ∧ P ws') from P2)
  have HP3 := (show Hid (∀ ws, P ws → FreeT kd 64 0 (freshK 20) ∧ ∃ ws3, MakeT (freshK 20) ws [] 2 0 k false 64 0 ws3 kd ∧ ∀ m : Nat, m < k → FieldT kd ws3 64 m 0 0) from P3)
  have HE0 := (show Hid (eachK (freshK 20) = []) from each_fresh 20 (by omega))
  have HN := (show Hid (NotAt (freshK 20) (64 : Int)) from fun s m e => by
    rw [show (64 : Int) = ((64 : Nat) : Int) from rfl, find_nat, freshK_find 20 64 (by omega)] at e; cases e)
  have hri : (n : Int) % 100 = r := by omega
  have hki : (1 : Int) + r = k := by omega
  clear M1 M2 E1 H1 P1 P2 P3 hr hk
  go_enter Try.func3, Try.ntmps3
  go_wp2_with fail
  refine (onew_has 20 _ (by omega) (by omega)).mono ?_
  rintro e w1 ⟨hb, rfl, hHa⟩
  have HHa := (show Hid (Has w [] (heapA hb (zeros (64 * 20)) (freshK 20) []) w1) from hHa)
  clear hHa
  go_wp2_with fail
  refine (onew_has 20 _ (by omega) (by omega)).mono ?_
  rintro e w2 ⟨gb, rfl, hHb⟩
  have HHb := (show Hid (Has w [] ((heapA hb (zeros (64 * 20)) (freshK 20) []).star (heapA gb (zeros (64 * 20)) (freshK 20) [])) w2) from HHa.out.beside hHb)
  clear hHb HHa
  go_wp2_with fail
  refine (owhole _ HHb.out.fst).mono ?_
  rintro e w' ⟨rfl, rfl⟩
  go_wp2_with fail
  refine (owhole _ HHb.out.snd).mono ?_
  rintro e w' ⟨rfl, rfl⟩
  go_wp2_with (first | (go_at_call 7; refine (err_any _ _).mono ?_; rintro e w' ⟨rfl, rfl⟩))
  refine (has_left HHb.out (fun F0 hF0 => omake 3 0 k 64 0 false ws1 kd _ hF0 HM1.out)).mono ?_
  rintro e w3 ⟨rfl, hH3⟩
  have HH3 := (show Hid (Has w [] ((heapA hb ws1 kd []).star (heapA gb (zeros (64 * 20)) (freshK 20) [])) w3) from hH3)
  clear hH3 HHb
  go_wp2_with fail
  refine (has_right HH3.out (fun F0 hF0 => omake 2 0 k 64 0 false ws2 kd _ hF0 HM2.out)).mono ?_
  rintro e w4 ⟨rfl, hH4⟩
  have HH4 := (show Hid (Has w [] ((heapA hb ws1 kd []).star (heapA gb ws2 kd [])) w4) from hH4)
  clear hH4 HH3 hri hki
  go_wp2_with fail
  go_loopw [14] (fun v wr => ∃ (m : Nat) (ws : List Int), v = .int .i64 m ∧ m ≤ k ∧ Hid (P ws) ∧ Hid (Has w [] ((heapA hb ws kd []).star (heapA gb ws2 kd [])) wr)) (fun v _ => k - (intOf v).toNat)
  case atStart => exact ⟨0, ws1, rfl, by omega, HP1, HH4⟩
  case round =>
    obtain ⟨m, ws, rfl, hm, HP, HH5⟩ := hrel
    by_cases hlt : m < k
    · obtain ⟨ws', hp, hp'⟩ := HP2.out ws m x HP.out hlt
      have HQ := (show Hid (PutT kd ws 64 m x 0 ws') from hp)
      have HQ' := (show Hid (P ws') from hp')
      clear hp hp'
      go_wp2_with fail
      refine (has_left HH5.out (fun F0 hF0 => oput 64 m x 0 ws' _ hF0 HQ.out hx)).mono ?_
      rintro e w6 ⟨rfl, hH6⟩
      have HH6 := (show Hid (Has w [] ((heapA hb ws' kd []).star (heapA gb ws2 kd [])) w6) from hH6)
      clear hH6 HH5
      go_wp2_with fail
      go_roundw
      case rel => exact ⟨m + 1, ws', by go_num, by omega, HQ', HH6⟩
      case measure => simp [intOf]; omega
    · obtain rfl : m = k := by omega
      obtain ⟨T1, ws3, T2, T3⟩ := HP3.out ws HP.out
      have HT1 := (show Hid (FreeT kd 64 0 (freshK 20)) from T1)
      have HT2 := (show Hid (MakeT (freshK 20) ws [] 2 0 m false 64 0 ws3 kd) from T2)
      have HT3 := (show Hid (∀ q : Nat, q < m → FieldT kd ws3 64 q 0 0) from T3)
      clear T1 T2 T3
      obtain ⟨sb, tb, c0, c1⟩ := HH5.out.fst.ptrs
      go_wp2_with fail
      refine (has_left HH5.out (fun F0 hF0 => ofree sb 64 0 (freshK 20) _ hF0 c0 HT1.out)).mono ?_
      rintro e w6 ⟨rfl, hH6⟩
      have HH6 := (show Hid (Has w [] ((heapA hb ws (freshK 20) []).star (heapA gb ws2 kd [])) w6) from hH6)
      clear hH6 HH5 c0 c1
      go_wp2_with fail
      refine (ohead 64 0 0 0 2 false _ HH6.out.fst (.no HN.out)).mono ?_
      rintro e w7 ⟨rfl, hK7⟩
      have HH7 := (show Hid (Has w [] ((heapA hb ws (freshK 20) []).star (heapA gb ws2 kd [])) (w7.alloc (.cells #[.int .i64 0, .int .i64 0, .int .i64 0, .bool false] 31))) from (HH6.out.keep0 hK7).keep0 (Keep.alloc [] _ _))
      clear hK7 HH6
      go_wp2_with fail
      refine (oobjects _ HH7.out.fst).mono ?_
      rw [HE0.out]
      rintro e w8 ⟨va, vc, vs, rfl, _, _, hK8⟩
      have HH8 := (show Hid (Has w [] ((heapA hb ws (freshK 20) []).star (heapA gb ws2 kd [])) w8) from HH7.out.keep0 hK8)
      clear hK8 HH7
      go_wp2_with fail
      refine (has_left HH8.out (fun F0 hF0 => omake 2 0 m 64 0 false ws3 kd _ hF0 HT2.out)).mono ?_
      rintro e w9 ⟨rfl, hH9⟩
      have HH9 := (show Hid (Has w [] ((heapA hb ws3 kd []).star (heapA gb ws2 kd [])) w9) from hH9)
      clear hH9 HH8
      go_wp2_with fail
      go_loopw [21] (fun v wr => ∃ (q : Nat), v = .int .i64 q ∧ q ≤ m ∧ Hid (Has w [] ((heapA hb ws3 kd []).star (heapA gb ws2 kd [])) wr)) (fun v _ => m - (intOf v).toNat)
      case atStart => exact ⟨0, rfl, by omega, HH9⟩
      case round =>
        obtain ⟨q, rfl, hq, HHc⟩ := hrel
        by_cases hlt : q < m
        · have HF := (show Hid (FieldT kd ws3 64 q 0 0) from HT3.out q hlt)
          go_wp2_with fail
          refine (ofield 64 q 0 0 _ HHc.out.fst HF.out).mono ?_
          rintro e wd ⟨rfl, hKd⟩
          have HHd := (show Hid (Has w [] ((heapA hb ws3 kd []).star (heapA gb ws2 kd [])) wd) from HHc.out.keep0 hKd)
          clear hKd HHc
          go_wp2_with (first | (go_at_call 7; refine (err_any _ _).mono ?_; rintro e w' ⟨rfl, rfl⟩))
          go_roundw
          case rel => exact ⟨q + 1, by go_num, by omega, HHd⟩
          case measure => simp [intOf]; omega
        · obtain rfl : q = m := by omega
          go_wp2_with fail
          refine (ohead 64 2 0 q 0 false _ HHc.out.snd HH1.out).mono ?_
          rintro e wd ⟨rfl, hKd⟩
          have hxd := heap_alloc_new wd (.cells #[.int .i64 2, .int .i64 0, .int .i64 q, .bool false] 31)
          have HHd := (show Hid (Has w [] ((heapA hb ws3 kd []).star (heapA gb ws2 kd [])) (wd.alloc (.cells #[.int .i64 2, .int .i64 0, .int .i64 q, .bool false] 31))) from (HHc.out.keep0 hKd).keep0 (Keep.alloc [] _ _))
          clear hKd HHc
          go_wp2_with fail
          generalize wd.alloc (.cells #[.int .i64 2, .int .i64 0, .int .i64 q, .bool false] 31) = we at *
          generalize wd.heap.size = bx at *
          have x0 := (four_cells hxd).1
          go_wp2_with (first | (go_at_call 7; refine (err_any _ _).mono ?_; rintro e w' ⟨rfl, rfl⟩) | (go_at_call 12; refine (oobjects _ HHd.out.snd).mono ?_; rw [HE1.out]; rintro e wf ⟨va, vc, vs, rfl, _, _, hKf⟩) | (go_at_call 14; refine (awake9_any _).mono ?_; rintro e wg ⟨rfl, hKg⟩))
          go_ret
          exact ⟨rfl, (HHd.out.K.trans hKf).trans hKg⟩
theorem walk (a0 a1 : Int) (w0 : (Lit.int .u8 a0).wf = true) (w1 : (Lit.int .i64 a1).wf = true) (w : World) :
    Calls Try.prog 3 #[.int .u8 a0, .int .i64 a1] w fun e w' => e = .returned (.bool true) ∧ Keep [] w w' := by
  have h0 := bounds_u8 w0
  have h1 := bounds_i64 w1
  obtain ⟨n, rfl⟩ := Int.eq_ofNat_of_zero_le h0.1
  exact gone_any n a1 w (by omega) (by unfold inI; omega)

end Go.Proofs.Ytdpaffnpedcmpab.objectGone
