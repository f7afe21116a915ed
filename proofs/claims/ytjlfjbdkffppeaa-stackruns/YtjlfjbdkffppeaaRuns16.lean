/-
  StackRuns answers true, whatever it is given.
-/
import Derived.Test.YtjlfjbdkffppeaaAwake16
import Derived.Deep.CutRange
import Derived.Deep.CutBlock
namespace Go.Proofs.Ytjlfjbdkffppeaa.stackRuns
open Go.RowKit

theorem Try.infoInt16 : (Try.prog.info? 3).map (fun i => (i.zero, i.size, i.bytes)) = some (some (.int .i64 0), 1, 8) := by kernel_rfl
/-- The stack, and the list beside it. -/
def SW (sb n : Nat) (va : Option Addr) (p ca : Nat) (L : List Int) (ov : Bool) : Asn := (stkA sb n L ov).star (midA 3 (.slice va p ca) L)
theorem ints_take {w : World} {xa : Option Addr} {M : List Int} (h : IntsAt w xa M) (k : Nat) : IntsAt w xa (M.take k) := by
  refine ⟨fun h0 => ?_, fun i => ?_, fun i => ?_⟩
  · rw [List.length_take] at h0
    obtain ⟨b, off, e, hb, hc⟩ := h.cells (by omega)
    refine ⟨b, off, e, hb, fun i hi => ?_⟩
    rw [List.length_take] at hi
    rw [hc i (by omega), List.getElem?_take, if_pos (by omega)]
  · rw [List.getElem?_take]; split
    · exact h.low i
    · simp
  · rw [List.getElem?_take]; split
    · exact h.high i
    · simp
theorem mid_turn16 {w0 w w1 : World} {F0 : List Nat} {A : Asn} {va va' : Value} {L L' : List Int} (h : Has w0 F0 ((midA 3 va L).star A) w) (K : Keep va.ownBlock.toList w w1) (hm : IsMid w1 3 va' L') (hg : ∀ k, va'.ownBlock = some k → va.ownBlock = some k ∨ w.heap.size ≤ k) :
    Has w0 F0 ((midA 3 va' L').star A) w1 :=
  Has.left h (fun F hF => ⟨va'.ownBlock.toList, ⟨rfl, hm⟩, by rw [hF.1]; exact K, fun k e => by
    rw [hF.1]
    rcases hg k (by simpa using e) with g | g
    · exact .inl (by simp [g])
    · exact .inr g⟩)
theorem sw16 (q : Nat) (h : q < 4) : q = 2 ∨ q = 3 ∨ ((q == 2) = false ∧ (q == 3) = false) := by
  rcases q with _ | _ | _ | _ | q
  · exact .inr (.inr ⟨rfl, rfl⟩)
  · exact .inr (.inr ⟨rfl, rfl⟩)
  · exact .inl rfl
  · exact .inr (.inl rfl)
  · omega
set_option maxRecDepth 100000 in
set_option maxHeartbeats 6400000 in
theorem runs_no (x : Int) (ao : Option Addr) (t tc : Nat) (w : World) (hx : x < 1 ∨ 4096 < x) :
    Calls Try.prog 3 #[.int .i64 x, .slice ao t tc] w fun e w' => e = .returned (.bool true) ∧ Keep [] w w' := by
  have HX := hid hx
  go_enter Try.func3, Try.ntmps3
  go_wp2_with fail
  refine (stnew_no x _ HX.out).mono ?_
  rintro e w1 ⟨rfl, hK1⟩
  rcases hx with h | h
  · have d1 : decide (x < 1) = true := decide_eq_true h
    go_wp2_with (first
      | (go_at_call 7; refine (err_any _ _).mono ?_; rintro e w' ⟨rfl, rfl⟩)
      | (go_at_call 8; refine (awake16_any _).mono ?_; rintro e w15 ⟨rfl, hK15⟩))
    go_ret
    exact ⟨rfl, hK1.trans hK15⟩
  · have d1 : decide (x < 1) = false := decide_eq_false (by omega)
    have d2 : decide (4096 < x) = true := decide_eq_true h
    go_wp2_with (first
      | (go_at_call 7; refine (err_any _ _).mono ?_; rintro e w' ⟨rfl, rfl⟩)
      | (go_at_call 8; refine (awake16_any _).mono ?_; rintro e w15 ⟨rfl, hK15⟩))
    go_ret
    exact ⟨rfl, hK1.trans hK15⟩
set_option maxRecDepth 100000 in
set_option maxHeartbeats 6400000 in
theorem runs_many (n : Nat) (ao : Option Addr) (t tc : Nat) (w : World) (h1 : 1 ≤ n) (h2 : n ≤ 4096) (ht : 60 < t) :
    Calls Try.prog 3 #[.int .i64 n, .slice ao t tc] w fun e w' => e = .returned (.bool true) ∧ Keep [] w w' := by
  have d1 : decide ((n : Int) < 1) = false := decide_eq_false (by omega)
  have d2 : decide (4096 < (n : Int)) = false := decide_eq_false (by omega)
  have d3 : decide (60 < (t : Int)) = true := decide_eq_true (by omega)
  go_enter Try.func3, Try.ntmps3
  go_wp2_with fail
  refine (stnew_yes n _ h1 h2).mono ?_
  rintro e w1 ⟨sb, rfl, hX⟩
  have HX := (show Hid (Has w [] (stkA sb n [] false) w1) from hX)
  clear hX
  go_wp2_with (first
    | (go_at_call 7; refine (err_any _ _).mono ?_; rintro e w' ⟨rfl, rfl⟩)
    | (go_at_call 8; refine (awake16_any _).mono ?_; rintro e w15 ⟨rfl, hK15⟩))
  go_ret
  exact ⟨rfl, HX.out.K.trans hK15⟩
set_option maxRecDepth 100000 in
set_option maxHeartbeats 16000000 in
theorem runs_any (n : Nat) (ao : Option Addr) (t tc : Nat) (LL : List (List Int)) (w : World) (h1 : 1 ≤ n) (h2 : n ≤ 4096) (ht : t ≤ 60) (hl : LL.length = t) (hL : ListsC w ao LL) :
    Calls Try.prog 3 #[.int .i64 n, .slice ao t tc] w fun e w' => e = .returned (.bool true) ∧ Keep [] w w' := by
  have d1 : decide ((n : Int) < 1) = false := decide_eq_false (by omega)
  have d2 : decide (4096 < (n : Int)) = false := decide_eq_false (by omega)
  have d3 : decide (60 < (t : Int)) = false := decide_eq_false (by omega)
  have HN := hid hl
  have HL := hid hL
  clear hl hL
  go_enter Try.func3, Try.ntmps3
  go_wp2_with fail
  refine (stnew_yes n _ h1 h2).mono ?_
  rintro e w1 ⟨sb, rfl, hX⟩
  have HX := (show Hid (Has w [] (SW sb n none 0 0 [] false) w1) from hX.more (Keep.refl [] _) (B := midA 3 (.slice none 0 0) []) (G := []) ⟨rfl, IsMid.nil _ _⟩ (fun k hk => by cases hk))
  clear hX
  go_wp2_with (first | (go_at_call 7; refine (err_any _ _).mono ?_; rintro e w' ⟨rfl, rfl⟩))
  go_loopw [7, 8, 9] (fun v7 v8 v9 wr => ∃ (j p ca : Nat) (va : Option Addr) (L : List Int) (ov : Bool), v7 = .slice va p ca ∧ v8 = .bool ov ∧ v9 = .int .i64 j ∧ j ≤ t ∧ Hid (L.length = p) ∧ Hid (Has w [] (SW sb n va p ca L ov) wr)) (fun _ _ v9 _ => t - (intOf v9).toNat)
  case atStart => exact ⟨0, 0, 0, none, [], false, rfl, rfl, rfl, by omega, rfl, HX.out⟩
  case round =>
    obtain ⟨j, p, ca, va, L, ov, rfl, rfl, rfl, hj, HP, HS⟩ := hrel
    clear HX
    by_cases hlt : j < t
    · have hd : decide ((j : Int) < (t : Int)) = true := decide_eq_true (by omega)
      have hLw := HL.out.keep HS.out.K
      obtain ⟨b, off, rfl, _, hcs⟩ := hLw.cells (by have := HN.out; omega)
      obtain ⟨M, hM⟩ : ∃ M, LL[j]? = some M := ⟨_, List.getElem?_eq_getElem (by have := HN.out; omega)⟩
      obtain ⟨xa, xc, hc, hIA, hcap⟩ := hcs j M hM
      have HLC := (show Hid (∀ w', Keep [] w w' → w'.cell? ⟨b, off + j, none⟩ = some (.slice xa M.length xc) ∧ IntsAt w' xa M) from fun w' K => by
        obtain ⟨b', off', e, hb', hcs'⟩ := HL.out.cells (by have := HN.out; omega)
        cases e
        obtain ⟨xa', xc', hc', hIA', _⟩ := hcs' j M hM
        have hw := (HS.out.K.cell hb' (by simp) (off + j)).trans hc'
        rw [hc] at hw
        cases hw
        exact ⟨(K.cell hb' (by simp) _).trans hc', hIA'.keep K (hIA'.off (by simp))⟩)
      obtain ⟨m, hm⟩ : ∃ m, M.length = m := ⟨_, rfl⟩
      rw [hm] at hc hcap HLC
      have HM := hid hm
      have HCAP := hid hcap
      clear hcs hM hIA hm hLw hcap
      by_cases h30 : 30 < m
      · have d4 : decide (30 < (m : Int)) = true := decide_eq_true (by omega)
        go_wp2_with (first
          | (go_at_call 8; refine (awake16_any _).mono ?_; rintro e w15 ⟨rfl, hK15⟩))
        go_ret
        exact ⟨rfl, HS.out.K.trans hK15⟩
      · have d4 : decide (30 < (m : Int)) = false := decide_eq_false (by omega)
        obtain ⟨q, hq⟩ : ∃ q, j % 4 = q := ⟨_, rfl⟩
        have hqi : (j : Int) % 4 = q := by omega
        have hqt : (j : Int).tmod 4 = q := by rw [← hq]; rfl
        have hq4 : q < 4 := by omega
        clear hq
        go_upto_block 2 with fail
        go_cut [7, 8] from 79 to 79 (fun v7 v8 wz => ∃ (p ca : Nat) (va : Option Addr) (L : List Int) (ov : Bool), v7 = .slice va p ca ∧ v8 = .bool ov ∧ Hid (L.length = p) ∧ Hid (Has w [] (SW sb n va p ca L ov) wz))
        case first =>
          rcases sw16 q hq4 with rfl | rfl | ⟨h2', h3'⟩
          · rcases List.eq_nil_or_concat L with rfl | ⟨L0, y, rfl⟩
            · obtain rfl : 0 = p := HP.out
              go_wp2_with fail
              refine (has_left HS.out (fun F hF => stpop_no _ hF)).mono ?_
              rintro e w3 ⟨rfl, hX3⟩
              have HX3 := (show Hid (Has w [] (SW sb n va 0 ca [] ov) w3) from hX3)
              clear hX3
              go_wp2_with fail
              go_meet
              exact ⟨0, ca, va, [], ov, rfl, rfl, rfl, HX3⟩
            · obtain ⟨p0, rfl⟩ : ∃ p0, p = p0 + 1 := ⟨L0.length, by have := HP.out; simp at this; omega⟩
              have HP0 := (show Hid (L0.length = p0) from by have := HP.out; simp at this; exact this)
              go_wp2_with fail
              refine (has_left HS.out (fun F hF => stpop_yes y _ (by rw [List.concat_eq_append] at hF; exact hF))).mono ?_
              rintro e w3 ⟨rfl, hX3⟩
              have hm3 : IsMid w3 3 (.slice va (p0 + 1) ca) (L0 ++ [y]) := by
                have h := hX3.snd.fact (fun _ h => h.2)
                rwa [List.concat_eq_append] at h
              obtain ⟨g, o, rfl⟩ := hm3.some (by omega)
              have hc3 := (mid_cells hm3 (show p0 < p0 + 1 by omega)).1
              rw [show (L0 ++ [y])[p0]?.getD 0 = y by rw [← HP0.out]; simp] at hc3
              have hcp := hm3.le.2
              have hcm := hm3.capR
              unfold maxLen at hcm
              have hX4 : Has w [] (SW sb n (some ⟨g, o, none⟩) p0 ca L0 ov) w3 := by
                refine hX3.map (fun F h => star_mono (B' := midA 3 (.slice (some ⟨g, o, none⟩) p0 ca) L0) (fun F h => ?_) h)
                have h3 := midA_cut h (show p0 ≤ p0 + 1 by omega)
                rwa [List.concat_eq_append, List.take_append_of_le_length (by have := HP0.out; omega), List.take_of_length_le (by have := HP0.out; omega)] at h3
              have HX3 := hid hX4
              clear hX4
              clear hX3 hm3
              have hgt : decide (0 < ((p0 + 1 : Nat) : Int)) = true := decide_eq_true (by omega)
              go_wp2_with fail
              go_meet
              exact ⟨p0, ca, some ⟨g, o, none⟩, L0, ov, rfl, rfl, HP0, HX3⟩
          · by_cases h3 : 3 < m
            · have d5 : decide (3 < (m : Int)) = true := decide_eq_true (by omega)
              go_wp2_with fail
              refine (has_left HS.out (fun F hF => streset _ hF)).mono ?_
              rintro e w3 ⟨rfl, hX3⟩
              have HX3 := (show Hid (Has w [] (SW sb n va p ca L false) w3) from hX3)
              clear hX3
              go_wp2_with fail
              go_meet
              exact ⟨p, ca, va, L, false, rfl, rfl, HP, HX3⟩
            · have d5 : decide (3 < (m : Int)) = false := decide_eq_false (by omega)
              go_wp2_with fail
              go_meet
              exact ⟨p, ca, va, L, ov, rfl, rfl, HP, HS⟩
          · have h2i : ((q : Int) == 2) = false := by rw [beq_eq_false_iff_ne] at h2' ⊢; omega
            have h3i : ((q : Int) == 3) = false := by rw [beq_eq_false_iff_ne] at h3' ⊢; omega
            go_wp2_with fail
            go_meet
            exact ⟨p, ca, va, L, ov, rfl, rfl, HP, HS⟩
        case rest =>
          obtain ⟨p, ca, va, L, ov, rfl, rfl, HP, HX0⟩ := hcut
          clear HS
          have hpn : p ≤ n := by have := HX0.out.fst.stkok; have := HP.out; omega
          obtain ⟨r, hr⟩ : ∃ r, n - p = r := ⟨_, rfl⟩
          have hri : (n : Int) - (p : Int) = r := by omega
          obtain ⟨i0, hi, hz0, hz1, hz2⟩ := info_parts Try.infoInt16
          have hI : Hid (Try.prog.info? 3 = some i0 ∧ i0.zero = some (.int .i64 0) ∧ i0.size = 1 ∧ i0.bytes = 8) := ⟨hi, hz0, hz1, hz2⟩
          clear hi hz0 hz1 hz2
          rcases Nat.lt_trichotomy r m with h1r | rfl | h1r
          · 
            have hp := stpush xa m xc M wc HX0.out (fun _ _ w' h => (HLC.out w' h.K).2) HM.out HCAP.out (by omega)
            rw [HP.out, hr, show min m r = r by omega, show M.take r = M.take r from rfl, show decide (r < m) = true from decide_eq_true h1r] at hp
            have HPU := hid hp
            have HMK := (show Hid ((M.take r).length = r) from by show _ = _; rw [List.length_take]; have := HM.out; omega)
            have hcx := (HLC.out wc HX0.out.K).1
            have HLK := (show Hid (∀ w', Keep [] w w' → IntsAt w' xa (M.take r)) from fun w' K => ints_take (HLC.out w' K).2 r)
            have hcap := HCAP.out.1
            have hcap2 := HCAP.out.2.1
            have dk : decide (r < m) = true := decide_eq_true h1r
            have dk2 : decide (m < r) = false := decide_eq_false (by omega)
            clear hp
            go_wp2_with fail
            refine HPU.out.mono ?_
            rintro e w5 ⟨rfl, hX5⟩
            have HX5 := hid hX5
            have hcx5 := (HLC.out w5 hX5.K).1
            clear hX5 HPU hcx
            cases ov
            all_goals go_wp2_with (first
              | (at_builtin; refine wpList_append_mids _ rfl (.tmp 135) (.tmp 141) 29 rfl 3 i0 Try.underlying29 hI.out (.slice va p ca) L rfl (HX5.out.snd.fact (fun _ h => h.2)) xa r xc (M.take r) rfl (HLK.out _ HX5.out.K) HMK.out (by have := HP.out; omega) ?_; intro v7 w7 hm7 hK7 hg7; have HX7 := hid (mid_turn16 HX5.out.comm hK7 hm7 hg7).comm; obtain ⟨l7, c7, hv7⟩ := hm7.form; rw [List.length_append, HP.out, HMK.out] at hv7; subst hv7; have hcx7 := (HLC.out w7 HX7.out.K).1; clear hm7 hK7 hg7 hcx5)
              | (go_at_call 12; refine (stover _ HX7.out.fst).mono ?_; rintro e w8 ⟨rfl, hK8⟩; have HX8 := hid (HX7.out.keep0 hK8))
              | (go_at_call 13; refine (stdepth _ HX8.out.fst).mono ?_; rw [List.length_append, HP.out, HMK.out]; rintro e w9 ⟨rfl, hK9⟩; have HX9 := hid (HX8.out.keep0 hK9)))
            all_goals
              go_roundw
              case rel => exact ⟨j + 1, _, c7, l7, _, _, rfl, rfl, by go_num, by omega, by show _ = _; rw [List.length_append, HP.out, HMK.out], HX9.out⟩
              case measure => simp [intOf]; omega
          · 
            have hp := stpush xa r xc M wc HX0.out (fun _ _ w' h => (HLC.out w' h.K).2) HM.out HCAP.out (by omega)
            rw [HP.out, hr, show min r r = r by omega, show M.take r = M.take r from rfl, show decide (r < r) = false from decide_eq_false (by omega)] at hp
            have HPU := hid hp
            have HMK := (show Hid ((M.take r).length = r) from by show _ = _; rw [List.length_take]; have := HM.out; omega)
            have hcx := (HLC.out wc HX0.out.K).1
            have HLK := (show Hid (∀ w', Keep [] w w' → IntsAt w' xa (M.take r)) from fun w' K => ints_take (HLC.out w' K).2 r)
            have hcap := HCAP.out.1
            have hcap2 := HCAP.out.2.1
            
            clear hp
            go_wp2_with fail
            refine HPU.out.mono ?_
            rintro e w5 ⟨rfl, hX5⟩
            have HX5 := hid hX5
            have hcx5 := (HLC.out w5 hX5.K).1
            clear hX5 HPU hcx
            cases ov
            all_goals go_wp2_with (first
              | (at_builtin; refine wpList_append_mids _ rfl (.tmp 135) (.tmp 141) 29 rfl 3 i0 Try.underlying29 hI.out (.slice va p ca) L rfl (HX5.out.snd.fact (fun _ h => h.2)) xa r xc (M.take r) rfl (HLK.out _ HX5.out.K) HMK.out (by have := HP.out; omega) ?_; intro v7 w7 hm7 hK7 hg7; have HX7 := hid (mid_turn16 HX5.out.comm hK7 hm7 hg7).comm; obtain ⟨l7, c7, hv7⟩ := hm7.form; rw [List.length_append, HP.out, HMK.out] at hv7; subst hv7; have hcx7 := (HLC.out w7 HX7.out.K).1; clear hm7 hK7 hg7 hcx5)
              | (go_at_call 12; refine (stover _ HX7.out.fst).mono ?_; rintro e w8 ⟨rfl, hK8⟩; have HX8 := hid (HX7.out.keep0 hK8))
              | (go_at_call 13; refine (stdepth _ HX8.out.fst).mono ?_; rw [List.length_append, HP.out, HMK.out]; rintro e w9 ⟨rfl, hK9⟩; have HX9 := hid (HX8.out.keep0 hK9)))
            all_goals
              go_roundw
              case rel => exact ⟨j + 1, _, c7, l7, _, _, rfl, rfl, by go_num, by omega, by show _ = _; rw [List.length_append, HP.out, HMK.out], HX9.out⟩
              case measure => simp [intOf]; omega
          · 
            have hp := stpush xa m xc M wc HX0.out (fun _ _ w' h => (HLC.out w' h.K).2) HM.out HCAP.out (by omega)
            rw [HP.out, hr, show min m r = m by omega, show M.take r = M.take m from by rw [List.take_of_length_le (by rw [HM.out]; omega), List.take_of_length_le (by rw [HM.out]; exact Nat.le_refl _)], show decide (r < m) = false from decide_eq_false (by omega)] at hp
            have HPU := hid hp
            have HMK := (show Hid ((M.take m).length = m) from by show _ = _; rw [List.length_take]; have := HM.out; omega)
            have hcx := (HLC.out wc HX0.out.K).1
            have HLK := (show Hid (∀ w', Keep [] w w' → IntsAt w' xa (M.take m)) from fun w' K => ints_take (HLC.out w' K).2 m)
            have hcap := HCAP.out.1
            have hcap2 := HCAP.out.2.1
            have dk : decide (m < r) = true := decide_eq_true h1r
            have dk2 : decide (r < m) = false := decide_eq_false (by omega)
            clear hp
            go_wp2_with fail
            refine HPU.out.mono ?_
            rintro e w5 ⟨rfl, hX5⟩
            have HX5 := hid hX5
            have hcx5 := (HLC.out w5 hX5.K).1
            clear hX5 HPU hcx
            cases ov
            all_goals go_wp2_with (first
              | (at_builtin; refine wpList_append_mids _ rfl (.tmp 135) (.tmp 141) 29 rfl 3 i0 Try.underlying29 hI.out (.slice va p ca) L rfl (HX5.out.snd.fact (fun _ h => h.2)) xa m xc (M.take m) rfl (HLK.out _ HX5.out.K) HMK.out (by have := HP.out; omega) ?_; intro v7 w7 hm7 hK7 hg7; have HX7 := hid (mid_turn16 HX5.out.comm hK7 hm7 hg7).comm; obtain ⟨l7, c7, hv7⟩ := hm7.form; rw [List.length_append, HP.out, HMK.out] at hv7; subst hv7; have hcx7 := (HLC.out w7 HX7.out.K).1; clear hm7 hK7 hg7 hcx5)
              | (go_at_call 12; refine (stover _ HX7.out.fst).mono ?_; rintro e w8 ⟨rfl, hK8⟩; have HX8 := hid (HX7.out.keep0 hK8))
              | (go_at_call 13; refine (stdepth _ HX8.out.fst).mono ?_; rw [List.length_append, HP.out, HMK.out]; rintro e w9 ⟨rfl, hK9⟩; have HX9 := hid (HX8.out.keep0 hK9)))
            all_goals
              go_roundw
              case rel => exact ⟨j + 1, _, c7, l7, _, _, rfl, rfl, by go_num, by omega, by show _ = _; rw [List.length_append, HP.out, HMK.out], HX9.out⟩
              case measure => simp [intOf]; omega
    · obtain rfl : j = t := by omega
      have hd : decide ((j : Int) < (j : Int)) = false := decide_eq_false (by omega)
      have hpn : p ≤ 4096 := by have := HS.out.fst.stkok; have := HP.out; omega
      go_wp2_with fail
      go_loopw [13] (fun v wr => ∃ (z : Int) (q : Nat), v = .int .i64 z ∧ z = (q : Int) - 1 ∧ q ≤ p ∧ Hid (Has w [] (((stkA sb n (L.take q) ov)).star (midA 3 (.slice va p ca) L)) wr)) (fun v _ => (intOf v + 1).toNat)
      case atStart => exact ⟨(p : Int) - 1, p, by go_num, rfl, by omega, by
        show Has _ _ _ _
        rw [List.take_of_length_le (by have := HP.out; omega)]
        exact HS.out⟩
      case round =>
        obtain ⟨z, q, rfl, hz, hq, HX5⟩ := hrel
        clear HS
        rcases q with _ | q
        · have hdz : decide (0 ≤ z) = false := decide_eq_false (by omega)
          clear hz
          have hX5 := HX5.out.fst
          rw [List.take_zero] at hX5
          have HX6 := hid hX5
          clear HX5 hX5
          go_wp2_with fail
          refine (stpop_no _ HX6.out).mono ?_
          rintro e w7 ⟨rfl, hX7⟩
          have HX7 := hid hX7
          clear HX6 hX7
          go_wp2_with fail
          refine (stpop_nil _).mono ?_
          rintro e w8 ⟨rfl, hK8⟩
          have HX8 := hid (HX7.out.keep0 hK8)
          clear HX7 hK8
          go_wp2_with fail
          refine (streset_nil _).mono ?_
          rintro e w9 ⟨rfl, hK9⟩
          have HX9 := hid (HX8.out.keep0 hK9)
          clear HX8 hK9
          go_wp2_with (first
            | (go_at_call 11; refine (stpush_nil _ _ _ _).mono ?_; rintro e w10 ⟨rfl, hK10⟩; have HX10 := hid ((HX9.out.keep0 (Keep.alloc [] _ _)).keep0 hK10))
            | (go_at_call 12; refine (stover_nil _).mono ?_; rintro e w11 ⟨rfl, hK11⟩; have HX11 := hid (HX10.out.keep0 hK11))
            | (go_at_call 13; refine (stdepth_nil _).mono ?_; rintro e w12 ⟨rfl, hK12⟩; have HX12 := hid (HX11.out.keep0 hK12))
            | (go_at_call 8; refine (awake16_any _).mono ?_; rintro e w15 ⟨rfl, hK15⟩))
          go_ret
          exact ⟨rfl, HX12.out.K.trans hK15⟩
        · obtain rfl : z = (q : Int) := by omega
          have hdz : decide (0 ≤ (q : Int)) = true := decide_eq_true (by omega)
          have hX5 := HX5.out
          rw [show L.take (q + 1) = L.take q ++ [L[q]?.getD 0] by rw [List.take_add_one]; simp [show q < L.length by have := HP.out; omega]] at hX5
          have HX6 := hid hX5
          clear HX5 hX5 hz
          go_wp2_with fail
          refine (has_left HX6.out (fun F hF => stpop_yes _ _ hF)).mono ?_
          rintro e w7 ⟨rfl, hX7⟩
          have hm7 : IsMid w7 3 (.slice va p ca) L := hX7.snd.fact (fun _ h => h.2)
          obtain ⟨g, o, rfl⟩ := hm7.some (by omega)
          have hc7 := (mid_cells hm7 (show q < p by omega)).1
          have HX7 := hid hX7
          clear HX6 hX7 hm7
          generalize L[q]?.getD 0 = y at *
          go_wp2_with fail
          go_roundw
          case rel => exact ⟨(q : Int) - 1, q, by go_num, rfl, by omega, HX7.out⟩
          case measure => first | (simp [intOf]; omega) | simp [intOf]
theorem walk (a0 : Int) (o1 : Option Addr) (len1 cap1 : Nat) (A1 : List (List Int)) (_ : (Lit.int .i64 a0).wf = true) (_ : len1 ≤ 9223372036854775807) (w : World) (u1 : A1.length = len1 ∧ ListsC w o1 A1) :
    Calls Try.prog 3 #[.int .i64 a0, .slice o1 len1 cap1] w fun e w' => e = .returned (.bool true) ∧ Keep [] w w' := by
  by_cases h : a0 < 1 ∨ 4096 < a0
  · exact runs_no a0 o1 len1 cap1 w h
  · obtain ⟨n, rfl⟩ : ∃ n : Nat, a0 = n := ⟨a0.toNat, by omega⟩
    by_cases ht : 60 < len1
    · exact runs_many n o1 len1 cap1 w (by omega) (by omega) ht
    · exact runs_any n o1 len1 cap1 A1 w (by omega) (by omega) (by omega) u1.1 u1.2

end Go.Proofs.Ytjlfjbdkffppeaa.stackRuns
