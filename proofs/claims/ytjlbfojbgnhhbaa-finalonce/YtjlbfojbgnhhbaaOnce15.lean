/-
  FinalOnce answers true, whatever it is given.
-/
import Derived.Test.YtjlbfojbgnhhbaaTakes15
import Derived.Test.YtjlbfojbgnhhbaaOpens
import Derived.Deep.CutBlock
namespace Go.Proofs.Ytjlbfojbgnhhbaa.finalOnce
open Go.RowKit Go.Proofs.Ytjlbfojbgnhhbaa.finalTakes

/-- Of D some wait, the others are pending. -/
structure PS (D L Q : List Int) : Prop where
  nd : L.Nodup
  sub : ∀ x, x ∈ Q → x ∈ D
  cover : ∀ x, x ∈ D → x ∈ L ∨ x ∈ Q
  disj : ∀ x, x ∈ L → x ∉ Q
  len : L.length + Q.length = D.length
theorem PS.start {D : List Int} (h : D.Nodup) : PS D D [] := ⟨h, fun x e => (by cases e), fun x e => Or.inl e, fun x _ e => (by cases e), by simp⟩
theorem mem_without {L : List Int} {x y : Int} : y ∈ withoutL L x ↔ y ∈ L ∧ y ≠ x := by
  unfold withoutL
  rw [List.mem_filter]
  simp
theorem without_length {L : List Int} {x : Int} (h : L.Nodup) (hx : x ∈ L) : (withoutL L x).length + 1 = L.length := by
  have e : withoutL L x = L.erase x := by
    rw [h.erase_eq_filter]
    unfold withoutL
    refine List.filter_congr (fun y _ => ?_)
    by_cases e : y = x <;> simp [e]
  rw [e, List.length_erase_of_mem hx]
  have := List.length_pos_of_mem hx
  omega
theorem PS.step {D L Q : List Int} (h : PS D L Q) {x : Int} (hx : x ∈ D) :
    (x ∈ L ∧ pend1 (L, Q) x = (withoutL L x, Q ++ [x]) ∧ inL Q x = false ∧ PS D (withoutL L x) (Q ++ [x])) ∨ (pend1 (L, Q) x = (L, Q) ∧ inL Q x = true) := by
  by_cases hL : x ∈ L
  · left
    refine ⟨hL, if_pos (decide_eq_true hL), decide_eq_false (h.disj x hL), h.nd.sublist List.filter_sublist, fun y hy => ?_, fun y hy => ?_, fun y hy => ?_, ?_⟩
    · rcases List.mem_append.1 hy with e | e
      · exact h.sub y e
      · rw [List.mem_singleton.1 e]; exact hx
    · by_cases e : y = x
      · right; rw [e]; simp
      · rcases h.cover y hy with e2 | e2
        · left; exact mem_without.2 ⟨e2, e⟩
        · right; exact List.mem_append_left _ e2
    · obtain ⟨h1, h2⟩ := mem_without.1 hy
      intro e
      rcases List.mem_append.1 e with e | e
      · exact h.disj y h1 e
      · exact h2 (List.mem_singleton.1 e)
    · have := without_length h.nd hL
      have := h.len
      rw [List.length_append, List.length_singleton]
      omega
  · right
    refine ⟨?_, decide_eq_true ((h.cover x hx).resolve_left hL)⟩
    unfold pend1
    rw [if_neg (by unfold inL; simpa using hL)]
/-- Twice more: nothing. -/
theorem pend_twice {L Q : List Int} {x : Int} (h : x ∉ L) : pendL L Q [x, x] = (L, Q) := by
  have e : pend1 (L, Q) x = (L, Q) := by
    unfold pend1
    rw [if_neg (by unfold inL; simpa using h)]
  show pend1 (pend1 (L, Q) x) x = (L, Q)
  rw [e, e]
theorem aL_mem {A : Nat → Nat} {n : Nat} {x : Int} (h : x ∈ aL A n) : ∃ t, t < n ∧ x = (A t : Int) := by
  unfold aL at h
  obtain ⟨t, ht, e⟩ := List.mem_map.1 h
  exact ⟨t, List.mem_range.1 ht, e.symm⟩
theorem mem_aL {A : Nat → Nat} {n t : Nat} (h : t < n) : (A t : Int) ∈ aL A n := by
  unfold aL
  exact List.mem_map.2 ⟨t, List.mem_range.2 h, rfl⟩

set_option maxRecDepth 100000 in
set_option maxHeartbeats 25600000 in
theorem once_any (o : Option Addr) (n cp : Nat) (G : Nat → Nat) (again : Bool) (w : World) (hU : U8At w o n G) (hn : n ≤ 9223372036854775807) :
    Calls Try.prog 3 #[.slice o n cp, .bool again] w fun e w' => e = .returned (.bool true) ∧ Keep [] w w' := by
  obtain ⟨i0, hi, hz0, hz1, hz2⟩ := info_parts Try.infoInt
  have hI : Hid (Try.prog.info? 3 = some i0 ∧ i0.zero = some (.int .i64 0) ∧ i0.size = 1 ∧ i0.bytes = 8) := ⟨hi, hz0, hz1, hz2⟩
  obtain ⟨W, K, A, hC⟩ := gchain_ex (kkF 6) (ccF 6) (llF 6) (headF 6) 7 (by omega)
  have HC := hid hC
  have HU := hid hU
  have HND := (show Hid (∀ q, q ≤ 7 → (aL A q).Nodup) from fun q hq => aL_nodup hC.os q hq)
  have HBD := (show Hid (∀ q, q ≤ 6 → 64 ≤ A q ∧ inI (A q : Int) ∧ inI ((A q + 1 : Nat) : Int)) from fun q hq => by have := hC.os.bd q hq; exact ⟨by omega, ⟨by omega, by omega⟩, by omega, by omega⟩)
  have HS0 := (show Hid (OS (K 7) (W 7) 6 A (fun t => decide (t < 0))) from hC.os)
  clear hC hi hz0 hz1 hz2 hU
  go_enter Try.func3, Try.ntmps3
  go_wp2_with fail
  refine (made15 6 HC.out (by omega) _).mono ?_
  rintro e w1 ⟨hb, fb, la, lc, rfl, hlc, hX⟩
  obtain ⟨lb, lo, rfl, _, _⟩ := hX.snd.list.cells (by rw [aL_length]; omega)
  have HX1 := (show Hid (Has w [] ((pfinA fb hb (W 7) (K 7) [] (aL A 0) []).star (listA (some ⟨lb, lo, none⟩) (aL A 7))) w1) from hX)
  clear hX
  go_wp2_with fail
  go_loopw [8] (fun i wr => ∃ (j : Nat) (ws : List Int), i = .int .i64 j ∧ j ≤ 6 ∧ Hid (OS (K 7) ws 6 A (fun t => decide (t < j))) ∧ Hid (Has w [] ((pfinA fb hb ws (K 7) [] (aL A j) []).star (listA (some ⟨lb, lo, none⟩) (aL A 7))) wr)) (fun i _ => 6 - (intOf i).toNat)
  case atStart => exact ⟨0, W 7, rfl, by omega, HS0, HX1⟩
  case round =>
    obtain ⟨j, ws, rfl, hj, HS, HX⟩ := hrel
    obtain ⟨w2, rfl⟩ : ∃ w2, w2 = wr := ⟨_, rfl⟩
    clear HX1 HS0
    by_cases hlt : j < 6
    · have hdk : decide (j < 6) = true := decide_eq_true hlt
      obtain ⟨ws', hT, hS'⟩ := HS.out.await j (by omega) (by simp)
      have HT := hid hT
      have HT2 := hid (hS'.again j (by omega) (by simp))
      have HS2 := (show Hid (OS (K 7) ws' 6 A (fun t => decide (t < j + 1))) from by
        have e : (fun t => decide (t < j + 1)) = (fun i => if i = j then true else decide (i < j)) := by
          funext t
          by_cases h1 : t = j
          · simp [h1]
          · simp [h1]; omega
        show OS _ _ _ _ _
        rw [e]; exact hS')
      obtain ⟨_, _, e5, _, hcs⟩ := HX.out.snd.list.cells (by rw [aL_length]; omega)
      cases e5
      have hc := hcs j (by rw [aL_length]; omega)
      rw [aL_get A 7 j (by omega)] at hc
      clear hT hS' hcs
      go_wp2_with fail
      refine (has_left HX.out (fun F hF => pfawait (A j) 0 ws' _ hF HT.out (HBD.out j (by omega)).2.1 (by rw [aL_length]; omega))).mono ?_
      rw [show awaitL 0 (aL A j) (A j : Int) = aL A (j + 1) by rw [aL_snoc]; rfl]
      rintro e w3 ⟨rfl, hX3⟩
      have HX3 := hid hX3
      obtain ⟨_, _, e5, _, hcs⟩ := HX3.out.snd.list.cells (by rw [aL_length]; omega)
      cases e5
      have hc3 := hcs j (by rw [aL_length]; omega)
      rw [aL_get A 7 j (by omega)] at hc3
      clear hX3 HX hc hcs
      go_wp2_with (first | (go_at_call 7; refine (err_any _ _).mono ?_; rintro e w' ⟨rfl, rfl⟩))
      refine (has_left HX3.out (fun F hF => pfawait (A j) 4 ws' _ hF HT2.out (HBD.out j (by omega)).2.1 (by rw [aL_length]; omega))).mono ?_
      rintro e w4 ⟨rfl, hX4⟩
      have HX4 := (show Hid (Has w [] ((pfinA fb hb ws' (K 7) [] (aL A (j + 1)) []).star (listA (some ⟨lb, lo, none⟩) (aL A 7))) w4) from hX4)
      clear hX4 HX3 hc3
      go_wp2_with (first | (go_at_call 7; refine (err_any _ _).mono ?_; rintro e w' ⟨rfl, rfl⟩))
      go_roundw
      case rel => exact ⟨j + 1, ws', by go_num, by omega, HS2, HX4⟩
      case measure => simp [intOf]; omega
    · obtain rfl : j = 6 := by omega
      rw [show ((6 : Nat) : Int) = 6 from rfl]
      have HT5 := hid HS.out.kind
      have HT6 := hid (HS.out.inside 0 (by omega))
      obtain ⟨_, _, e5, _, hcs⟩ := HX.out.snd.list.cells (by rw [aL_length]; omega)
      cases e5
      have hc6 := hcs 6 (by rw [aL_length]; omega)
      rw [aL_get A 7 6 (by omega)] at hc6
      obtain ⟨a6, ha6⟩ : ∃ a, A 6 = a := ⟨_, rfl⟩
      obtain ⟨a0, ha0⟩ : ∃ a, A 0 = a := ⟨_, rfl⟩
      obtain ⟨a1, ha1⟩ : ∃ a, a0 + 1 = a := ⟨_, rfl⟩
      have hb6 := (HBD.out 6 (by omega)).2.1
      have hb1 := (HBD.out 0 (by omega)).2.2
      have hb0 := (HBD.out 0 (by omega)).2.1
      rw [ha0, ha1] at HT6 hb1
      rw [ha6] at HT5 hc6 hb6
      rw [ha0] at hb0
      have hw1 : IntKind.i64.wrap ((a0 : Int) + 1) = (a1 : Int) := by rw [show (a0 : Int) + 1 = (a1 : Int) by omega]; exact IntWalk.i64_in _ (by unfold inI at hb1; omega)
      have HA0 := hid ha0
      have HB6 := hid hb6
      have HB1 := hid hb1
      clear hlt hcs ha6 ha0 ha1 hb6 hb1 hb0
      have hlc6 : 6 ≤ lc := by omega
      have hlc6i : (6 : Int) ≤ (lc : Int) := by omega
      go_upto_region 9 with fail
      go_cut [71] from 47 to 70 (fun v wz => v = .bool false ∧ Hid (Has w [] ((pfinA fb hb ws (K 7) [] (aL A 6) []).star (listA (some ⟨lb, lo, none⟩) (aL A 7))) wz))
      case first =>
        go_region_law (first
          | (have hh := HX6
             go_simp
             refine (pffinals _ HX6.out.fst (by rw [aL_length]; omega)).mono ?_
             rintro e w7 ⟨v7, m7, rfl, hown7, hK7⟩
             obtain ⟨l7, c7, rfl, _, _, hX7⟩ := HX6.out.listed2 hK7 hown7 HX6.out.fst.pfin_in.1
             rw [aL_length]
             have HX7 := hid hX7
             clear hX7 hown7 hK7)
          | (have hh := HX5
             go_simp
             refine (has_left HX5.out (fun F hF => pfawait (a1 : Int) 2 ws _ hF HT6.out HB1.out (by rw [aL_length]; omega))).mono ?_
             rintro e w6 ⟨rfl, hX6⟩
             have HX6 := (show Hid (Has w [] ((pfinA fb hb ws (K 7) [] (aL A 6) []).star (listA (some ⟨lb, lo, none⟩) (aL A 7))) w6) from hX6)
             clear hX6)
          | (go_simp
             refine (has_left (HX.out.keep0 (Keep.drew [] _)) (fun F hF => pfawait (a6 : Int) 5 ws _ hF HT5.out HB6.out (by rw [aL_length]; omega))).mono ?_
             rintro e w5 ⟨rfl, hX5⟩
             have HX5 := (show Hid (Has w [] ((pfinA fb hb ws (K 7) [] (aL A 6) []).star (listA (some ⟨lb, lo, none⟩) (aL A 7))) w5) from hX5)
             obtain ⟨_, _, e5, _, hcs⟩ := HX5.out.snd.list.cells (by rw [aL_length]; omega)
             cases e5
             have hc0 := hcs 0 (by rw [aL_length]; omega)
             rw [aL_get A 7 0 (by omega), HA0.out, Nat.add_zero] at hc0
             clear hX5 hcs)
          | (go_simp
             refine (err_any _ _).mono ?_
             rintro e w' ⟨rfl, rfl⟩)
          | (go_simp
             refine (same_eq _ _ 6 _ _ (aL A 6) _ HX7.out.snd.list (by have e := HX7.out.fst.snd.list.take 6; rw [aL_take A 7 6 (by omega)] at e; exact e) (aL_length A 6) (by omega)).mono ?_
             rintro e w8 ⟨rfl, hK8⟩
             have HX8 := hid (HX7.out.keep0 hK8)
             clear hK8))
        all_goals (
          go_wp2_with fail
          go_meet
          exact ⟨rfl, HX8.out.fst⟩)
      case rest =>
        obtain ⟨w9, rfl⟩ : ∃ w9, w9 = wc := ⟨_, rfl⟩
        obtain ⟨rfl, hcut⟩ := hcut
        have HX9 := (show Hid (Has w [] (((pfinA fb hb ws (K 7) [] (aL A 6) []).star (listA (some ⟨lb, lo, none⟩) (aL A 7))).star (ownA 3 none 0 0 [])) w9) from hcut.out.ownNew 3)
        have HP9 := (show Hid (PS (aL A 6) (aL A 6) []) from PS.start (HND.out 6 (by omega)))
        have HS9 := hid HS.out
        clear hcut HX hc6 hw1 HT5 HT6 HA0 HB6 HB1 HS
        go_wp2_with fail
        go_loopw [9, 10] (fun v i wr => ∃ (j q c2 : Nat) (la2 : Option Addr) (L Q : List Int), v = .slice la2 q c2 ∧ i = .int .i64 j ∧ j ≤ 12 ∧ q ≤ 6 ∧ Hid (Q.length = q) ∧ Hid (PS (aL A 6) L Q) ∧ Hid (Has w [] (((pfinA fb hb ws (K 7) [] L Q).star (listA (some ⟨lb, lo, none⟩) (aL A 7))).star (ownA 3 la2 q c2 Q)) wr)) (fun _ i _ => 12 - (intOf i).toNat)
        case atStart => exact ⟨0, 0, 0, none, _, [], rfl, rfl, by omega, by omega, rfl, HP9, HX9⟩
        case round =>
          obtain ⟨j, q, c2, la2, L, Q, rfl, rfl, hj, hq, HQ, HP, HX⟩ := hrel
          obtain ⟨w10, rfl⟩ : ∃ w10, w10 = wr := ⟨_, rfl⟩
          clear HX9 HP9
          by_cases hlt : j < n ∧ j < 12
          · obtain ⟨hjn, hj12⟩ := hlt
            have hd1 : decide (j < n) = true := decide_eq_true hjn
            have hd2 : decide (j < 12) = true := decide_eq_true hj12
            obtain ⟨ob, oo, rfl, hob, hoc⟩ := HU.out.cells (by omega)
            have hco := (HX.out.K.cell hob (by simp) (oo + j)).trans (hoc j hjn)
            have hG := HU.out.lt j
            generalize G j = g at hco hG
            obtain ⟨t, ht2⟩ : ∃ t : Nat, (g : Int) % 6 = t := ⟨((g : Int) % 6).toNat, by omega⟩
            have ht6 : t < 6 := by omega
            obtain ⟨_, _, e5, _, hcs⟩ := HX.out.fst.snd.list.cells (by rw [aL_length]; omega)
            cases e5
            have hc := hcs t (by rw [aL_length]; omega)
            rw [aL_get A 7 t (by omega)] at hc
            have HXB := hid (HBD.out t (by omega)).2.1
            have HXD := hid (mem_aL (A := A) (n := 6) ht6)
            generalize A t = a at hc HXB HXD
            have hlen := HP.out.len
            rw [aL_length] at hlen
            have HLL := (show Hid (L.length ≤ 6) from by show _ ≤ _; omega)
            clear hoc hcs hlen
            go_wp2_with fail
            refine (pfpend (some ⟨w10.heap.size, 0, none⟩) 1 1 [(a : Int)] _ ((HX.out.assoc.newB (oneO a)).assoc) (ints_block HXB.out) rfl (by have := HLL.out; omega) (by rw [HQ.out]; omega) HP.out.nd).mono ?_
            rw [show pendL L Q [(a : Int)] = pend1 (L, Q) a from rfl]
            rintro e w11 ⟨rfl, hX11⟩
            have hX11 := (Has.assoc' hX11).fst
            have key : ∃ (L' Q' : List Int) (b : Bool), Has w [] (((pfinA fb hb ws (K 7) [] L' Q').star (listA (some ⟨lb, lo, none⟩) (aL A 7))).star (ownA 3 la2 q c2 Q)) w11 ∧ PS (aL A 6) L' Q' ∧ (a : Int) ∉ L' ∧ inL Q a = b ∧ Q' = if b then Q else Q ++ [(a : Int)] := by
              rcases HP.out.step HXD.out with ⟨hxL, hp1, hin, hP2⟩ | ⟨hp1, hin⟩
              · rw [hp1] at hX11
                exact ⟨_, _, false, Has.assoc' hX11, hP2, fun e => (mem_without.1 e).2 rfl, hin, rfl⟩
              · have hnot : (a : Int) ∉ L := fun e => by
                  have : (a : Int) ∈ Q := of_decide_eq_true hin
                  exact HP.out.disj _ e this
                rw [hp1] at hX11
                exact ⟨_, _, true, Has.assoc' hX11, HP.out, hnot, hin, rfl⟩
            obtain ⟨L', Q', b, hX11', hP2, hnot, hb, hQ'⟩ := key
            have HX11 := hid hX11'
            have HP2 := hid hP2
            have HNL := hid hnot
            have HBQ := hid hb
            have HQ' := hid hQ'
            have hl2 := hP2.len
            rw [aL_length] at hl2
            have HL2 := (show Hid (L'.length ≤ 6 ∧ Q'.length ≤ 6) from ⟨by omega, by omega⟩)
            clear hX11 hX11' hP2 hnot hb hQ' hc hco ht2 hl2
            go_upto_if 95 with fail
            go_cut [] from 96 to 100 (fun wz => Hid (Has w [] (((pfinA fb hb ws (K 7) [] L' Q').star (listA (some ⟨lb, lo, none⟩) (aL A 7))).star (ownA 3 la2 q c2 Q)) wz))
            case first =>
              cases again
              · go_wp2_with fail
                go_meet
                exact HX11.out
              · go_wp2_with fail
                refine (pfpend (some ⟨w11.heap.size, 0, none⟩) 2 2 [(a : Int), (a : Int)] _ ((HX11.out.assoc.newB (twoO a a)).assoc) (ints_block2 HXB.out HXB.out) rfl (by have := HL2.out; omega) (by have := HL2.out; omega) HP2.out.nd).mono ?_
                rw [pend_twice HNL.out]
                rintro e w12 ⟨rfl, hX12⟩
                have HX12 := (show Hid (Has w [] (((pfinA fb hb ws (K 7) [] L' Q').star (listA (some ⟨lb, lo, none⟩) (aL A 7))).star (ownA 3 la2 q c2 Q)) w12) from Has.assoc' (Has.assoc' hX12).fst)
                go_wp2_with fail
                go_meet
                exact HX12.out
            case rest =>
              obtain ⟨w13, rfl⟩ : ∃ w13, w13 = wc := ⟨_, rfl⟩
              have HX13 := hid hcut.out
              have HOA := hid (own_at hcut.out.snd.own HX.out.fst.fst.pfin_in.2).1
              clear hcut HX11 HX
              go_wp2_with fail
              refine (rin la2 q c2 Q a _ HOA.out HQ.out (by omega)).mono ?_
              rintro e w14 ⟨rfl, rfl⟩
              rw [HBQ.out]
              cases b
              · have HL := (show Hid (Q' = Q ++ [(a : Int)]) from HQ'.out)
                have HQ2 := (show Hid (Q'.length = q + 1) from by show _ = _; rw [HL.out, List.length_append, HQ.out]; rfl)
                have hq6 : q + 1 ≤ 6 := by have := HL2.out.2; have := HQ2.out; omega
                go_wp2_with (first | (at_builtin; refine wpList_append_lies _ rfl (.tmp 105) (.tmp 107) 25 rfl 0 3 i0 (.int .i64 0) 1 8 Try.underlying25 hI.out.1 hI.out.2.1 hI.out.2.2.1 hI.out.2.2.2 rfl (by decide) _ q (ints Q) rfl (HX13.out.snd.own.alloc _) ⟨w13.heap.size, 0, none⟩ 1 1 (ints [(a : Int)]) rfl rfl (one_cell _ _ _) (ints_one _) (by omega) (by unfold maxLen; omega) (by omega) (by omega) (w13.heap.size + 1) (by simp) ?_; intro ga ca7 w7 hown7 hgrow7 hblk7 hlt7; rw [ints_app] at hown7; have HX7 := (show Hid (Has w [] (((pfinA fb hb ws (K 7) [] L' Q').star (listA (some ⟨lb, lo, none⟩) (aL A 7))).star (ownA 3 (some ⟨ga, 0, none⟩) (q + 1) ca7 Q')) w7) from by show Has _ _ (_ : Asn) _; rw [show ownA 3 (some ⟨ga, 0, none⟩) (q + 1) ca7 Q' = ownA 3 (some ⟨ga, 0, none⟩) (q + 1) ca7 (Q ++ [(a : Int)]) by rw [HL.out]]; exact (HX13.out.keep0 (Keep.alloc [] _ _)).ownMore hown7 hgrow7 hblk7 (by simp) hlt7); clear hown7 hgrow7 hblk7 hlt7))
                go_roundw
                case rel => exact ⟨j + 1, q + 1, ca7, some ⟨ga, 0, none⟩, L', Q', by rfl, by go_num, by omega, hq6, HQ2, HP2, HX7⟩
                case measure => simp [intOf]; omega
              · have HL := (show Hid (Q' = Q) from HQ'.out)
                have HQ2 := (show Hid (Q'.length = q) from by show _ = _; rw [HL.out]; exact HQ.out)
                have HX7 := (show Hid (Has w [] (((pfinA fb hb ws (K 7) [] L' Q').star (listA (some ⟨lb, lo, none⟩) (aL A 7))).star (ownA 3 la2 q c2 Q')) w13) from by show Has _ _ (_ : Asn) _; rw [show ownA 3 la2 q c2 Q' = ownA 3 la2 q c2 Q by rw [HL.out]]; exact HX13.out)
                go_wp2_with fail
                go_roundw
                case rel => exact ⟨j + 1, q, c2, la2, L', Q', rfl, by go_num, by omega, by omega, HQ2, HP2, HX7⟩
                case measure => simp [intOf]; omega
          · have HX1 := (show Hid (Has w [] (((pfinA fb hb ws (K 7) [] L Q).star (listA (some ⟨lb, lo, none⟩) (aL A 7))).star (listA la2 Q)) w10) from (HX.out.comm.map (fun F g => by
              obtain ⟨F1, F2, hF, h1, h2, hd⟩ := g
              exact ⟨F1, F2, hF, ⟨h1.1, (own_at h1.2.1 HX.out.fst.fst.pfin_in.2).1, h1.2.2⟩, h2, hd⟩)).comm)
            have hlen := HP.out.len
            rw [aL_length] at hlen
            have HLL := (show Hid (L.length = 6 - q) from by have := HQ.out; show _ = _; omega)
            obtain ⟨r, hr⟩ : ∃ r, L.length = r := ⟨_, rfl⟩
            have hri : (6 : Int) - (q : Int) = (r : Int) := by have := HLL.out; omega
            have HR := hid hr
            have HAG := (show Hid (∀ x, x ∈ Q → inI x ∧ FinalT (K 7) ws x 4 ws) from fun x hx => by
              obtain ⟨t, ht, e⟩ := aL_mem (HP.out.sub x hx)
              rw [e]
              exact ⟨(HBD.out t (by omega)).2.1, HS9.out.again t ht (by simpa using ht)⟩)
            clear HX hlen hr
            have hex : (n ≤ j ∧ decide (j < n) = false) ∨ ((j < n ∧ decide (j < n) = true) ∧ 12 ≤ j ∧ decide (j < 12) = false) := by
              by_cases h1 : j < n
              · exact .inr ⟨⟨h1, decide_eq_true h1⟩, by omega, decide_eq_false (by omega)⟩
              · exact .inl ⟨by omega, decide_eq_false h1⟩
            rcases hex with ⟨h1, h2⟩ | ⟨⟨h1, h2⟩, h3, h4⟩
            all_goals
              go_wp2_with (first
                | (go_at_call 13; refine (pfpending _ HX1.out.fst.fst (by rw [HQ.out]; omega)).mono ?_; rintro e w11 ⟨v11, m11, rfl, hown11, hK11⟩; obtain ⟨l11, c11, rfl, _, _, hX11⟩ := HX1.out.listed2 hK11 hown11 HX1.out.fst.fst.pfin_in.2; rw [HQ.out]; have HX11 := hid hX11; clear hX11 hown11 hK11)
                | (go_at_call 9; refine (same_eq _ _ q _ _ Q _ HX11.out.snd.list HX11.out.fst.snd.list HQ.out (by omega)).mono ?_; rintro e w12 ⟨rfl, hK12⟩; have HX12 := hid (HX11.out.fst.keep0 hK12); clear hK12)
                | (go_at_call 10; refine (pffinals _ HX12.out.fst.fst (by rw [HLL.out]; omega)).mono ?_; rintro e w13 ⟨v13, m13, rfl, hown13, hK13⟩; obtain ⟨l13, c13, rfl, _, _, hX13⟩ := HX12.out.listed2 hK13 hown13 HX12.out.fst.fst.pfin_in.1; rw [HR.out]; have HX13 := (show Hid (Has w [] (((pfinA fb hb ws (K 7) [] L (Q.drop 0)).star (listA (some ⟨lb, lo, none⟩) (aL A 7))).star (listA la2 Q)) w13) from hX13.fst); clear hX13 hown13 hK13))
              clear h1 h2 hri HX1 HP
              try clear h3 h4
              go_loopw [12] (fun i wr => ∃ v : Nat, i = .int .i64 v ∧ v ≤ q ∧ Hid (Has w [] (((pfinA fb hb ws (K 7) [] L (Q.drop v)).star (listA (some ⟨lb, lo, none⟩) (aL A 7))).star (listA la2 Q)) wr)) (fun i _ => q - (intOf i).toNat)
              case atStart => exact ⟨0, rfl, by omega, HX13⟩
              case round =>
                obtain ⟨v, rfl, hv, HX⟩ := hrel
                obtain ⟨w14, rfl⟩ : ∃ w14, w14 = wr := ⟨_, rfl⟩
                clear HX13 HX12 HX11
                by_cases hvq : v < q
                · have hdv : decide (v < q) = true := decide_eq_true hvq
                  have hdv' : decide ((v : Int) < (q : Int)) = true := decide_eq_true (by omega)
                  obtain ⟨x, hx⟩ : ∃ x, Q[v]?.getD 0 = x := ⟨_, rfl⟩
                  have hxm : x ∈ Q := by
                    have e := HQ.out
                    rw [List.getElem?_eq_getElem (by omega)] at hx
                    rw [← hx]; exact List.getElem_mem _
                  have HTT := (show Hid (TakeT (Q.drop v) 0 x 0 (Q.drop (v + 1))) from by
                    have h := TakeT.yes (Q := Q.drop v) (i := 0) 0 rfl (by rw [List.length_drop, HQ.out]; omega)
                    rw [List.getElem?_drop, Nat.add_zero, hx, List.take_zero, List.nil_append, List.drop_drop] at h
                    exact h)
                  have HXF := hid (HAG.out x hxm)
                  obtain ⟨gb, go, rfl, _, _⟩ := HX.out.snd.list.cells (by have := HQ.out; omega)
                  have HXV := hid hx
                  clear hx hxm
                  go_wp2_with fail
                  refine (has_left HX.out (fun F hF => has_left hF (fun F hF => pftake 0 x 0 (Q.drop (v + 1)) _ hF HTT.out inI_0 (by rw [List.length_drop, HQ.out]; omega)))).mono ?_
                  rintro e w15 ⟨rfl, hX15⟩
                  have HX15 := hid hX15
                  obtain ⟨_, _, e5, _, hcs⟩ := HX15.out.snd.list.cells (by have := HQ.out; omega)
                  cases e5
                  have hcv := hcs v (by have := HQ.out; omega)
                  rw [HXV.out] at hcv
                  clear hX15 HX hcs
                  go_wp2_with (first | (go_at_call 7; refine (err_any _ _).mono ?_; rintro e w' ⟨rfl, rfl⟩))
                  refine (has_left HX15.out (fun F hF => has_left hF (fun F hF => pfawait x 4 ws _ hF HXF.out.2 HXF.out.1 (by rw [HLL.out]; omega)))).mono ?_
                  rintro e w16 ⟨rfl, hX16⟩
                  have HX16 := (show Hid (Has w [] (((pfinA fb hb ws (K 7) [] L (Q.drop (v + 1))).star (listA (some ⟨lb, lo, none⟩) (aL A 7))).star (listA (some ⟨gb, go, none⟩) Q)) w16) from hX16)
                  clear hX16 HX15 hcv
                  go_wp2_with (first | (go_at_call 7; refine (err_any _ _).mono ?_; rintro e w' ⟨rfl, rfl⟩))
                  go_roundw
                  case rel => exact ⟨v + 1, by go_num, by omega, HX16⟩
                  case measure => simp [intOf]; omega
                · obtain rfl : v = q := by omega
                  have hdv : decide (v < v) = false := decide_eq_false hvq
                  have hdv' : decide ((v : Int) < (v : Int)) = false := decide_eq_false (by omega)
                  have HD0 := (show Hid ((Q.drop v).length = 0) from by show _ = _; rw [List.length_drop, HQ.out]; omega)
                  clear hvq
                  go_wp2_with fail
                  refine (pftake_nil 0 _).mono ?_
                  rintro e w15 ⟨rfl, hK15⟩
                  have HX15 := hid (HX.out.keep0 hK15)
                  clear hK15 HX
                  go_wp2_with fail
                  refine (pfpend_nil (some ⟨w15.heap.size, 0, none⟩) 1 1 _).mono ?_
                  rintro e w16 ⟨rfl, hK16⟩
                  have HX16 := hid (HX15.out.keep0 ((Keep.alloc [] w15 _).trans hK16))
                  clear hK16 HX15
                  go_wp2_with fail
                  refine (pfpending _ HX16.out.fst.fst (by rw [HD0.out]; omega)).mono ?_
                  rintro e w17 ⟨v17, m17, rfl, hown17, hK17⟩
                  obtain ⟨l17, c17, rfl, _, _, hX17⟩ := HX16.out.listed2 hK17 hown17 HX16.out.fst.fst.pfin_in.2
                  rw [HD0.out]
                  have HK17 := hid hX17.K
                  clear hX17 hown17 hK17 HX16
                  go_wp2_with (first
                    | (go_at_call 7; refine (err_any _ _).mono ?_; rintro e w' ⟨rfl, rfl⟩)
                    | (go_at_call 8; refine (pfawait_nil _ _).mono ?_; rintro e w18 ⟨rfl, hK18⟩)
                    | (go_at_call 10; refine (pffinals_nil _).mono ?_; rintro e w19 ⟨rfl, hK19⟩)
                    | (go_at_call 13; refine (pfpending_nil _).mono ?_; rintro e w20 ⟨rfl, hK20⟩)
                    | (go_at_call 15; refine (pfnew_nil _).mono ?_; rintro e w21 ⟨rfl, hK21⟩)
                    | (go_at_call 16; refine (awake15_any _).mono ?_; rintro e w22 ⟨rfl, hK22⟩))
                  go_ret
                  exact ⟨rfl, HK17.out.trans ((((hK18.trans hK19).trans hK20).trans hK21).trans hK22)⟩

end Go.Proofs.Ytjlbfojbgnhhbaa.finalOnce

namespace Go.Proofs.Ytjlbfojbgnhhbaa.finalOnce
theorem walk (o0 : Option Addr) (len0 cap0 : Nat) (A0 : Nat → Nat) (a1 : Bool) (w0 : len0 ≤ 9223372036854775807) (w : World) (u0 : U8At w o0 len0 A0) :
    Calls Try.prog 3 #[.slice o0 len0 cap0, .bool a1] w fun e w' => e = .returned (.bool true) ∧ Keep [] w w' :=
  once_any o0 len0 cap0 A0 a1 w u0 w0
end Go.Proofs.Ytjlbfojbgnhhbaa.finalOnce
