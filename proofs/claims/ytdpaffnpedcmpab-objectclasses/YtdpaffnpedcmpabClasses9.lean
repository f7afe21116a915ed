/-
  ObjectClasses: classes that are told to a heap are its own: objects of each have its fields, and its addresses.
-/
import Derived.Test.YtdpaffnpedcmpabAwake9
import Derived.Test.YtdpaffnpedcmpabOwnA
import Derived.Test.YtdpaffnpedcmpabEach9
import Derived.Test.YtdpaffnpedcmpabSame
import Derived.Test.YtdpaffnpedcmpabOpens
import Derived.Deep.CutRange
namespace Go.Proofs.Ytdpaffnpedcmpab.objectClasses
open Go.RowKit

theorem may_plain (i F : Nat) (hi : i < 20) (h : F ≤ 100) : mayH 1 ((i : Int) + 1) F false = true := by
  rw [mayH_1, inB_yes (by omega) (by omega), inB_yes (by omega) (by omega)]; rfl
theorem pages_of (l : Int) (K : Nat) (h0 : 0 ≤ l) (hl : l + 1 ≤ 64 * K) (hK : 1 ≤ K) (h2 : l ≤ 1023) : pagesI (l + 1) ≤ K := by
  unfold pagesI; split <;> (try split) <;> omega
/-- How many fields the t-th class has, and which one is an address. -/
def fl (A : Nat → Nat) (t : Nat) : Nat := 2 + A t % 20
def ad (A : Nat → Nat) (t : Nat) : Nat := A t % fl A t
/-- Behind i objects that were made. -/
structure Inv (A : Nat → Nat) (i : Nat) (ds : List (Int × List Int)) (kd : List PK) (ws : List Int) (AT : List Int) : Prop where
  fine : Fine ws kd ds
  free : FreeFrom kd (1 + i)
  len : kd.length = 60
  cnt : (eachK kd).length = i
  dl : ds.length = i
  al : AT.length = i
  cls : ∀ t, t < i → ds[t]? = some ((fl A t : Int), [(ad A t : Int)])
  all : ∀ t, t < i → ∃ a m : Nat, AT[t]?.getD 0 = a ∧ a ≤ 3840 ∧ At kd ws a a m 1 ((t : Int) + 1) (fl A t) false
theorem Inv.start (A : Nat → Nat) : Inv A 0 [] (freshK 60) (zeros (64 * 60)) [] :=
  ⟨Fine.fresh 60 (by omega) (by omega), FreeFrom.fresh 60 (by omega), freshK_length 60, by rw [each_fresh 60 (by omega)]; rfl, rfl, rfl, fun t h => by omega, fun t h => by omega⟩
theorem Inv.step {A : Nat → Nat} {i : Nat} {ds : List (Int × List Int)} {kd : List PK} {ws AT : List Int} (h : Inv A i ds kd ws AT) (hi : i < 20) :
    ∃ (a : Nat) (ds' : List (Int × List Int)) (kd' : List PK) (ws' : List Int), addN ds (fl A i) [(ad A i : Int)] = ((i + 1 : Nat) : Int) ∧ addE ds (fl A i) [(ad A i : Int)] = 0 ∧ addR ds (fl A i) [(ad A i : Int)] = ds' ∧
      MakeT kd ws ds' 1 ((i + 1 : Nat) : Int) (fl A i) false a 0 ws' kd' ∧ a ≤ 3840 ∧ Inv A (i + 1) ds' kd' ws' (AT ++ [(a : Int)]) := by
  have hf : 2 ≤ fl A i ∧ fl A i ≤ 21 := by unfold fl; omega
  have ha : ad A i < fl A i := Nat.mod_lt _ (by omega)
  have hmb : mayB (fl A i) [(ad A i : Int)] = true := mayB_yes (by omega) (by omega) (fun t ht => by
    simp at ht
    subst ht
    exact ⟨by simp, by simp; omega, fun h => by omega⟩)
  have hd256 : ds.length < 256 := by rw [h.dl]; omega
  have hR : addR ds (fl A i) [(ad A i : Int)] = ds ++ [((fl A i : Int), [(ad A i : Int)])] := by unfold addR; rw [if_pos (by simp [hmb, hd256])]
  have hi1 : ((i + 1 : Nat) : Int) = (i : Int) + 1 := by omega
  have hm := may_plain i (fl A i) hi (by omega)
  have hf0 := h.fine.add (fl A i) [(ad A i : Int)]
  have hg : (ds ++ [((fl A i : Int), [(ad A i : Int)])])[i]? = some ((fl A i : Int), [(ad A i : Int)]) := by
    rw [List.getElem?_append_right (by rw [h.dl]; omega), h.dl, Nat.sub_self]; rfl
  rw [hR] at hf0
  have hln := h.len
  obtain ⟨a, b, kd', t, r, e, g⟩ := make_from (ds := ds ++ [((fl A i : Int), [(ad A i : Int)])]) (s := 1 + i) (K := 1) ws h.fine.wf hm (.yes i [(ad A i : Int)] rfl rfl hg) (pages_of _ 1 (by omega) (by omega) (by omega) (by omega)) (by omega) (by omega) h.free
  obtain ⟨f', l'⟩ := t.fine hf0
  have A0 := MakeT.at hf0.wf hf0.len hm r e
  obtain ⟨_, c1, c2, c3, c4, c5⟩ := A0.facts f'.wf
  refine ⟨a, _, kd', _, ?_, ?_, hR, by rw [hi1]; exact t, by omega, f', g.mono (by omega), by omega, by rw [r.count h.fine.wf, h.cnt], by simp [h.dl], by simp [h.al], fun t ht => ?_, fun t ht => ?_⟩
  · unfold addN; rw [if_pos (by simp [hmb, hd256]), h.dl]; omega
  · unfold addE; rw [if_pos hmb, if_pos hd256]
  · rcases Nat.lt_or_ge t i with e1 | e1
    · rw [List.getElem?_append_left (by rw [h.dl]; exact e1)]; exact h.cls t e1
    · obtain rfl : t = i := by omega
      exact hg
  · rcases Nat.lt_or_ge t i with e1 | e1
    · obtain ⟨p, m, q1, q3, q2⟩ := h.all t e1
      exact ⟨p, m, by rw [snoc_old _ _ _ (by rw [h.al]; exact e1)]; exact q1, q3, (q2.made h.fine.wf h.fine.len r e).1⟩
    · obtain rfl : t = i := by omega
      exact ⟨a, b, snoc_new _ _ _ h.al.symm, by omega, A0⟩
theorem Inv.bd {A : Nat → Nat} {i : Nat} {ds : List (Int × List Int)} {kd : List PK} {ws AT : List Int} (h : Inv A i ds kd ws AT) : ∀ t : Nat, -9223372036854775808 ≤ AT[t]?.getD 0 ∧ AT[t]?.getD 0 ≤ 9223372036854775807 := by
  intro t
  rcases Nat.lt_or_ge t i with e | e
  · obtain ⟨a, m, q1, q3, _⟩ := h.all t e
    omega
  · rw [List.getElem?_eq_none (by rw [h.al]; exact e)]; simp

section
variable {w0 : World} {F0 : List Nat} {hb : Nat} {ws : List Int} {kd : List PK} {ds : List (Int × List Int)}
theorem oof2 (tb : Nat) (f : Int) (ao : Option Addr) (n c : Nat) (L : List Int) (w : World) (h : Has w0 F0 (heapA hb ws kd ds) w) (ht : w.cell? ⟨hb, 1, none⟩ = some (.pointer (some ⟨tb, 0, none⟩))) (hA : IntsAt w ao L) (hc : ao = none → c = 0) (hn : L.length = n) (hbd : n ≤ 1000000) :
    Calls Try.prog 15 #[.pointer (some ⟨tb, 0, none⟩), .int .i64 f, .slice ao n c] w fun e w' => (e = .returned (.tuple #[.int .i64 (addN ds f L), .int .i64 (addE ds f L)]) ∧ w'.cell? ⟨hb, 1, none⟩ = some (.pointer (some ⟨tb, 0, none⟩))) ∧ Has w0 F0 (heapA hb ws kd (addR ds f L)) w' := by
  obtain ⟨sb, tb', hr⟩ := h.raw
  have e := hr.cells.2.1
  rw [ht] at e
  obtain rfl := ptr_eq e
  refine (xof w f ao n c L hr hA hc hn hbd).mono ?_
  rintro e w' ⟨rfl, hX⟩
  exact ⟨⟨rfl, hX.cells.2.1⟩, hX.heap (h.fine.add f L)⟩
end

set_option maxRecDepth 100000 in
set_option maxHeartbeats 12800000 in
theorem classes_any (ao : Option Addr) (n cp : Nat) (A : Nat → Nat) (w : World) (hn : n ≤ 9223372036854775807) (hl : U8At w ao n A) (N : Nat) (hNn : N ≤ n) (hN20 : N ≤ 20) (hmi : (if (20 : Int) < n then (20 : Int) else n) = N) :
    Calls Try.prog 4 #[.slice ao n cp] w fun e w' => e = .returned (.bool true) ∧ Keep [] w w' := by
  obtain ⟨i0, hi, hz0, hz1, hz2⟩ := info_parts Try.infoIntC
  have hI : Hid (Try.prog.info? 3 = some i0 ∧ i0.zero = some (.int .i64 0) ∧ i0.size = 1 ∧ i0.bytes = 8) := ⟨hi, hz0, hz1, hz2⟩
  clear hi hz0 hz1 hz2
  have HU := (show Hid (U8At w ao n A) from hl)
  clear hl
  go_enter Try.func4, Try.ntmps4
  go_wp2_with (first | (go_at_call 5; refine (onew_has 60 _ (by omega) (by omega)).mono ?_; rintro e w1 ⟨hb, rfl, hH⟩; have HH := (show Hid (Has w [] ((heapA hb (zeros (64 * 60)) (freshK 60) []).star (ownA 3 none 0 0 [])) w1) from hH.ownNew _); clear hH) | (go_at_call 6; refine (owhole _ HH.out.fst).mono ?_; rintro e w' ⟨rfl, rfl⟩) | (go_at_call 7; refine (err_any _ _).mono ?_; rintro e w' ⟨rfl, rfl⟩))
  go_loopw [6, 7] (fun v i wr => ∃ (j c : Nat) (la : Option Addr) (ds : List (Int × List Int)) (kd : List PK) (ws AT : List Int), v = .slice la j c ∧ i = .int .i64 j ∧ j ≤ N ∧ Hid (Inv A j ds kd ws AT) ∧ Hid (Has w [] ((heapA hb ws kd ds).star (ownA 3 la j c AT)) wr)) (fun _ i _ => N - (intOf i).toNat)
  case atStart => exact ⟨0, 0, none, [], _, _, [], rfl, rfl, by omega, Inv.start A, HH⟩
  case round =>
    obtain ⟨j, c, la, ds, kd, ws, AT, rfl, rfl, hj, HV, HHr⟩ := hrel
    obtain ⟨w3, rfl⟩ : ∃ w3, w3 = wr := ⟨_, rfl⟩
    have hKw := HHr.out.K
    by_cases hlt : j < N
    · obtain ⟨p, off, rfl, hbs, hcell⟩ := HU.out.cells (by omega)
      have hc := (hKw.cell hbs (by simp) (off + j)).trans (hcell j (by omega))
      have hA := HU.out.lt j
      obtain ⟨a, ds', kd', ws', N1, E1, R1, M1, ha, I1⟩ := HV.out.step (by omega)
      obtain ⟨x, hx⟩ : ∃ x, A j = x := ⟨_, rfl⟩
      obtain ⟨r, hr⟩ : ∃ r, x % 20 = r := ⟨_, rfl⟩
      obtain ⟨k, hk⟩ : ∃ k, 2 + r = k := ⟨_, rfl⟩
      obtain ⟨y, hy⟩ : ∃ y, x % k = y := ⟨_, rfl⟩
      have hfl : fl A j = k := by unfold fl; rw [hx, hr, hk]
      have had : ad A j = y := by unfold ad; rw [hfl, hx, hy]
      rw [hfl, had] at N1 E1 R1
      rw [hfl] at M1
      rw [hx] at hc hA
      have hri : (x : Int) % 20 = r := by omega
      have hki : (2 : Int) + r = k := by omega
      have hyi : (x : Int) % (k : Int) = y := by rw [← hy]; rfl
      have hyt : (x : Int).tmod (k : Int) = y := by rw [Int.tmod_eq_emod_of_nonneg (by omega)]; exact hyi
      have hyb : y < k := by rw [← hy]; exact Nat.mod_lt _ (by omega)
      have hk1 : 2 ≤ k := by omega
      have hk2 : k ≤ 21 := by omega
      have hk0 : (k : Int) ≠ 0 := by omega
      obtain ⟨id, hid⟩ : ∃ id : Nat, j + 1 = id := ⟨_, rfl⟩
      rw [hid] at N1 M1
      have hidi : (j : Int) + 1 = id := by omega
      have hjn : j < n := by omega
      have hjni : (j : Int) < n := by omega
      have hjN : (j : Int) < N := by omega
      have HAD := (show Hid (addN ds k [(y : Int)] = (id : Int) ∧ addE ds k [(y : Int)] = 0 ∧ addR ds k [(y : Int)] = ds') from ⟨N1, E1, R1⟩)
      have HM := (show Hid (MakeT kd ws ds' 1 (id : Int) k false a 0 ws' kd') from M1)
      have HI := (show Hid (Inv A (j + 1) ds' kd' ws' (AT ++ [(a : Int)])) from I1)
      obtain ⟨sb, tb, c0, c1⟩ := HHr.out.fst.ptrs
      have HB := (show Hid (p < w.heap.size ∧ w.cell? ⟨p, off + j, none⟩ = some (.int .u8 x)) from ⟨hbs, by rw [← hx]; exact hcell j (by omega)⟩)
      clear N1 E1 R1 M1 I1 hid hx hr hk hy hfl had hcell c0 hbs
      go_upto_region 10 with fail
      have hkn : ¬ k = 0 := by omega
      have hwx : IntKind.i64.wrap (x : Int) = x := IntWalk.i64_in _ (by omega)
      have hK0 := (Keep.alloc [] w3 (.cells #[.int .i64 y] 3)).trans (Keep.drew [] _)
      have HH4 := (show Hid (Has w [] ((heapA hb ws kd ds).star (ownA 3 la j c AT)) ((w3.alloc (.cells #[.int .i64 y] 3)).drew)) from HHr.out.keep0 hK0)
      have HI4 := (show Hid (IntsAt ((w3.alloc (.cells #[.int .i64 y] 3)).drew) (some ⟨w3.heap.size, 0, none⟩) [(y : Int)]) from IntsAt.single w3.drew 3 y (by omega) (by omega))
      have d1 := (hK0.cell (lt_of_cell2 c1) (by simp) 1).trans c1
      have d2 := (hK0.cell (lt_of_cell2 hc) (by simp) (off + j)).trans hc
      clear hK0
      go_region_held3 (fun wz => wz.cell? ⟨hb, 1, none⟩ = some (.pointer (some ⟨tb, 0, none⟩)) ∧ wz.cell? ⟨p, off + j, none⟩ = some (.int .u8 x)) (go_keep) (first | (go_at_call 15; refine (has_left HH4.out (fun F0 hF0 => oof2 tb k (some ⟨w3.heap.size, 0, none⟩) 1 1 [(y : Int)] _ hF0 d1 HI4.out (by simp) rfl (by omega))).mono ?_; rw [HAD.out.1, HAD.out.2.1, HAD.out.2.2]; rintro e w4 ⟨⟨rfl, e1⟩, hH4⟩; have e2 := (hH4.K.cell HB.out.1 (by simp) (off + j)).trans HB.out.2))
      have HH5 := (show Hid (Has w [] ((heapA hb ws kd ds').star (ownA 3 la j c AT)) w4) from hH4)
      clear hH4 HH4 HI4 d1 d2 HHr c1 hc e1 e2
      go_wp2_with fail
      refine (has_left HH5.out (fun F0 hF0 => omake 1 id k a 0 false ws' kd' _ hF0 HM.out)).mono ?_
      rintro e w6 ⟨rfl, hH6⟩
      have HH6 := (show Hid (Has w [] ((heapA hb ws' kd' ds').star (ownA 3 la j c AT)) (w6.alloc (.cells #[.int .i64 a] 3))) from hH6.keep0 (Keep.alloc [] _ _))
      clear hH6 HH5
      go_wp2_with (first | (go_at_call 7; refine (err_any _ _).mono ?_; rintro e w' ⟨rfl, rfl⟩) | (at_builtin; refine wpList_append_lies _ rfl (.tmp 83) (.tmp 85) 46 rfl 0 3 i0 (.int .i64 0) 1 8 Try.underlying46 hI.out.1 hI.out.2.1 hI.out.2.2.1 hI.out.2.2.2 rfl (by decide) _ j (ints AT) rfl HH6.out.snd.own ⟨w6.heap.size, 0, none⟩ 1 1 (ints [(a : Int)]) rfl rfl (one_cell _ _ _) (ints_one _) (by omega) (by unfold maxLen; omega) (by omega) (by omega) (w6.heap.size + 1) (by simp) ?_; intro ga ca7 w7 hown7 hgrow7 hblk7 hlt7; rw [ints_app] at hown7; have HH7 := (show Hid (Has w [] ((heapA hb ws' kd' ds').star (ownA 3 (some ⟨ga, 0, none⟩) (j + 1) ca7 (AT ++ [(a : Int)]))) w7) from HH6.out.ownMore hown7 hgrow7 hblk7 (by simp) hlt7); clear hown7 hgrow7 hblk7 hlt7))
      go_roundw
      case rel => exact ⟨j + 1, ca7, some ⟨ga, 0, none⟩, ds', kd', ws', AT ++ [(a : Int)], rfl, by go_num, by omega, HI, HH7⟩
      case measure => simp [intOf]; omega
    · have HJN := (show Hid (j = N) from by show _ = _; omega)
      have HVN := (show Hid (Inv A N ds kd ws AT) from (by have := HV.out; rw [HJN.out] at this; exact this))
      have HDL := (show Hid (ds.length = N) from HVN.out.dl)
      have HCN := (show Hid ((eachK kd).length = N) from HVN.out.cnt)
      go_wp2_with fail
      go_loopw [13] (fun v wr => ∃ q : Nat, v = .int .i64 q ∧ q ≤ N ∧ Keep [] w3 wr) (fun v _ => N - (intOf v).toNat)
      case atStart => exact ⟨0, rfl, by omega, Keep.refl _ _⟩
      case round =>
        obtain ⟨q, rfl, hq, hK⟩ := hrel
        obtain ⟨w4, rfl⟩ : ∃ w4, w4 = wr := ⟨_, rfl⟩
        have HH4 := (show Hid (Has w [] (heapA hb ws kd ds) w4) from HHr.out.fst.keep0 hK)
        by_cases hqN : q < N
        · obtain ⟨p, off, rfl, hbs, hcell⟩ := HU.out.cells (by omega)
          have hx0 := ((hKw.trans hK).cell hbs (by simp) (off + q)).trans (hcell q (by omega))
          have hA := HU.out.lt q
          obtain ⟨a, m, ha1, ha2, hAt⟩ := HVN.out.all q hqN
          have hcls := HVN.out.cls q hqN
          obtain ⟨g, rfl, hgs, hga⟩ : ∃ g, la = some ⟨g, 0, none⟩ ∧ g < w3.heap.size ∧ w3.cell? ⟨g, q, none⟩ = some (.int .i64 a) := by
            rcases own_ints HHr.out.snd.own HV.out.bd with ⟨_, e, _⟩ | ⟨g, cap, e, _, _, h2, h3⟩
            · exfalso; have := HVN.out.al; rw [e] at this; simp at this; omega
            · injection e with e1 e2 e3
              obtain ⟨p2, off2, e, _, hcl⟩ := h3.cells (by rw [HVN.out.al]; omega)
              cases e
              have := hcl q (by rw [HVN.out.al]; omega)
              rw [Nat.zero_add, ha1] at this
              exact ⟨g, e1, h2, this⟩
          have hy0 := (hK.cell hgs (by simp) q).trans hga
          obtain ⟨x, hx⟩ : ∃ x, A q = x := ⟨_, rfl⟩
          obtain ⟨r, hr⟩ : ∃ r, x % 20 = r := ⟨_, rfl⟩
          obtain ⟨k, hk⟩ : ∃ k, 2 + r = k := ⟨_, rfl⟩
          obtain ⟨y, hy⟩ : ∃ y, x % k = y := ⟨_, rfl⟩
          have hfl : fl A q = k := by unfold fl; rw [hx, hr, hk]
          have had : ad A q = y := by unfold ad; rw [hfl, hx, hy]
          rw [hfl, had] at hcls
          rw [hfl] at hAt
          rw [hx] at hx0 hA
          have hri : (x : Int) % 20 = r := by omega
          have hki : (2 : Int) + r = k := by omega
          have hyi : (x : Int) % (k : Int) = y := by rw [← hy]; rfl
          have hyt : (x : Int).tmod (k : Int) = y := by rw [Int.tmod_eq_emod_of_nonneg (by omega)]; exact hyi
          have hyb : y < k := by rw [← hy]; exact Nat.mod_lt _ (by omega)
          have hk1 : 2 ≤ k := by omega
          have hk2 : k ≤ 21 := by omega
          have hk0 : (k : Int) ≠ 0 := by omega
          have hkn : ¬ k = 0 := by omega
          have hwx : IntKind.i64.wrap (x : Int) = x := IntWalk.i64_in _ (by omega)
          have hqn : q < n := by omega
          have hqni : (q : Int) < n := by omega
          have hqNi : (q : Int) < N := by omega
          have hqj : q < j := by rw [HJN.out]; omega
          have hqji : (q : Int) < j := by omega
          obtain ⟨id, hid⟩ : ∃ id : Nat, q + 1 = id := ⟨_, rfl⟩
          have hidi : (q : Int) + 1 = id := by omega
          rw [hidi] at hAt
          have hidw : IntKind.i64.wrap ((q : Int) + 1) = id := by rw [hidi]; exact IntWalk.i64_in _ (by omega)
          have hidv : IntKind.i64.wrap (id : Int) = id := IntWalk.i64_in _ (by omega)
          have HCI := (show Hid ((id : Int) = (q : Int) + 1) from by show _ = _; omega)
          have HCL := (show Hid (ds[q]? = some ((k : Int), [(y : Int)])) from hcls)
          have HHT := (show Hid (HeadT kd ws a 1 id k false 0) from .yes a m 1 id k false hAt)
          have HRT := (show Hid (RefsT kd ws ds a [(y : Int)]) from .plain a m q id k false _ hAt HCI.out hcls)
          have HFW := (show Hid (ds.length ≤ 256) from HVN.out.fine.few)
          clear hcls hAt hx hr hk hy hfl had hcell hid ha1 hga
          go_upto_region 20 with (first | (go_at_call 11; refine (ohead a 1 id k 0 false _ HH4.out HHT.out).mono ?_; rintro e w5 ⟨rfl, hK5⟩))
          have hKb := hK5.trans (Keep.alloc [] w5 (.cells #[.int .i64 1, .int .i64 id, .int .i64 k, .bool false] 31))
          have hx := heap_alloc_new w5 (.cells #[.int .i64 1, .int .i64 id, .int .i64 k, .bool false] 31)
          have h1 := HH4.out.keep0 hKb
          have hx1 := (hKb.cell (lt_of_cell2 hx0) (by simp) (off + q)).trans hx0
          have hy1 := (hKb.cell (lt_of_cell2 hy0) (by simp) q).trans hy0
          have hKw1 := hK.trans hKb
          generalize w5.alloc (.cells #[.int .i64 1, .int .i64 id, .int .i64 k, .bool false] 31) = w1 at *
          generalize w5.heap.size = bx at *
          obtain ⟨g0, g1, g2, g3⟩ := four_cells hx
          obtain ⟨sb, tb, hraw⟩ := h1.raw
          obtain ⟨c0, c1, _⟩ := hraw.cells
          obtain ⟨F, hT⟩ := hraw.tab
          have HT := (show Hid (∀ w', Keep [] w1 w' → IsTab w' tb F ds) from fun w' K => hT.keep K (by simp))
          have HHb := (show Hid (Has w [] (heapA hb ws kd ds) w1) from h1)
          have hKz := (Keep.alloc [] w1 (.cells #[.int .i64 0, .slice none 0 0] 49)).trans (Keep.drew [] _)
          obtain ⟨b0, b1, _⟩ := (hraw.keep0 hKz).cells
          obtain ⟨d0, d1, d2, d3⟩ := four_cells (hKz.blk hx (by simp))
          have hn1 := World.new_ne _ _ c1
          have hn2 := World.new_ne _ _ g1
          clear h1 hT hraw hK5 hKb HH4 hx0 hy0
          go_cut [17, 18] from 87 to 160 (fun v e wz => ∃ bz, v = .pointer (some ⟨bz, 0, none⟩) ∧ e = .int .i64 0 ∧ Hid (Keep [] w1 wz ∧ wz.cell? ⟨bz, 0, none⟩ = some (.int .i64 k)))
          case first =>
            go_region_law (first | (go_simp; refine (tclass_at tb q F ds k id [(y : Int)] _ (HT.out _ (by first | exact Keep.drew [] _ | exact (Keep.alloc [] _ _).trans (Keep.drew [] _))) HCL.out (by have := HFW.out; omega) HCI.out).mono ?_; rintro e w2 ⟨lb, lc, rfl, HG, hK2⟩; have hKe : Keep [] w1 w2 := (by first | exact (Keep.drew [] _).trans hK2 | exact ((Keep.alloc [] _ _).trans (Keep.drew [] _)).trans hK2); obtain ⟨q0, q1, q2, q3⟩ := four_cells (hKe.blk hx (by simp)); have hn3 : w2.heap.size ≠ bx := World.new_ne _ _ q1; have hn4 := hn3.symm; try (have hz := hK2.blk (heap_alloc_new w1 (.cells #[.int .i64 0, .slice none 0 0] 49)) (by simp); obtain ⟨u0, u1⟩ := two_cells hz; obtain ⟨v0, v1⟩ := two_free hz)))
            all_goals (go_wp2_with fail)
            all_goals go_meet
            all_goals first
              | (refine ⟨w2.heap.size, rfl, rfl, hKe.trans (Keep.alloc [] w2 _), ?_⟩
                 exact (two_cells (heap_alloc_new w2 (.cells #[.int .i64 k, .slice lb 1 lc] 49))).1)
              | (obtain ⟨hz1, hk4⟩ := two_put hz (.int .i64 k) (.slice lb 1 lc)
                 exact ⟨w1.heap.size, rfl, rfl, ((hKe.mono (T := [w1.heap.size]) (by simp)).trans hk4).drop (by simp), (two_cells hz1).1⟩)
          case rest =>
            obtain ⟨bz, rfl, rfl, HCC⟩ := hcut
            obtain ⟨wz, rfl⟩ : ∃ wz, wz = wc := ⟨_, rfl⟩
            obtain ⟨hKf, t0⟩ := HCC.out
            have HHz := (show Hid (Has w [] (heapA hb ws kd ds) wz) from HHb.out.keep0 hKf)
            have hKwz := hKw1.trans hKf
            have hx2 := (hKf.cell (lt_of_cell2 hx1) (by simp) (off + q)).trans hx1
            have hy2 := (hKf.cell (lt_of_cell2 hy1) (by simp) q).trans hy1
            obtain ⟨r0, r1, r2, r3⟩ := four_cells (hKf.blk hx (by simp))
            clear HCC hKf HT HHb hx hx1 hy1 hKw1 d0 d1 d2 d3 b0 b1 g0 g1 g2 g3 c0 c1 hn1 hn2 hKz r0 r3 hK
            go_wp2_with fail
            have hn5 := World.new_ne _ _ r1
            go_region_held3 (fun wq => wq.cell? ⟨bx, 1, none⟩ = some (.int .i64 id) ∧ wq.cell? ⟨bx, 2, none⟩ = some (.int .i64 k) ∧ wq.cell? ⟨bz, 0, none⟩ = some (.int .i64 k) ∧ wq.cell? ⟨g, q, none⟩ = some (.int .i64 a) ∧ wq.cell? ⟨p, off + q, none⟩ = some (.int .u8 x)) (go_keep) (first | (go_at_call 7; refine (err_any _ _).mono ?_; rintro e w' ⟨rfl, rfl⟩) | (go_at_call 18; refine (orefs a [(y : Int)] _ (HHz.out.keep0 (by first | exact Keep.drew [] _ | exact (Keep.alloc [] _ _).trans (Keep.drew [] _))) HRT.out).mono ?_; rintro e w6 ⟨ra, rc, rfl, hI6, _, hK6⟩; have hKa : Keep [] wz w6 := (by first | exact (Keep.drew [] _).trans hK6 | exact ((Keep.alloc [] _ _).trans (Keep.drew [] _)).trans hK6); have HI6 := (show Hid (IntsAt w6 ra [(y : Int)]) from hI6); have y1 := (hKa.cell (lt_of_cell2 r1) (by simp) 1).trans r1; have y2 := (hKa.cell (lt_of_cell2 r2) (by simp) 2).trans r2; have y3 := (hKa.cell (lt_of_cell2 t0) (by simp) 0).trans t0; have y4 := (hKa.cell (lt_of_cell2 hy2) (by simp) q).trans hy2; have y5 := (hKa.cell (lt_of_cell2 hx2) (by simp) (off + q)).trans hx2; have n1 := World.new_ne _ _ y1; have n2 := World.new_ne _ _ y3; have n3 := World.new_ne _ _ y4; have n4 := World.new_ne _ _ y5; (try (have HI7 := (show Hid (IntsAt w6 (some ⟨wz.heap.size, 0, none⟩) [(y : Int)]) from (show IntsAt ((wz.alloc (.cells #[.int .i64 y] 3)).drew) (some ⟨wz.heap.size, 0, none⟩) [(y : Int)] from IntsAt.single wz.drew 3 y (by omega) (by omega)).keep hK6 (fun _ _ _ => by simp)))); (have HI8 := (show Hid (IntsAt (w6.alloc (.cells #[.int .i64 y] 3)) ra [(y : Int)] ∧ IntsAt (w6.alloc (.cells #[.int .i64 y] 3)) (some ⟨w6.heap.size, 0, none⟩) [(y : Int)]) from ⟨hI6.keep (Keep.alloc [] _ _) (fun _ _ _ => by simp), IntsAt.single w6 3 y (by omega) (by omega)⟩); have hKl := Keep.alloc [] w6 (.cells #[.int .i64 y] 3); have z1 := (hKl.cell (lt_of_cell2 y1) (by simp) 1).trans y1; have z2 := (hKl.cell (lt_of_cell2 y2) (by simp) 2).trans y2; have z3 := (hKl.cell (lt_of_cell2 y3) (by simp) 0).trans y3; have z4 := (hKl.cell (lt_of_cell2 y4) (by simp) q).trans y4; have z5 := (hKl.cell (lt_of_cell2 y5) (by simp) (off + q)).trans y5)) | (go_at_call 17; (first | (refine (same_eq ra (some ⟨wz.heap.size, 0, none⟩) 1 rc 1 [(y : Int)] _ HI6.out HI7.out rfl (by omega)).mono ?_) | (refine (same_eq ra (some ⟨w6.heap.size, 0, none⟩) 1 rc 1 [(y : Int)] _ HI8.out.1 HI8.out.2 rfl (by omega)).mono ?_)); rintro e w8 ⟨rfl, hK8⟩; have hK9 : Keep [] wz w8 := (by first | exact hKa.trans hK8 | exact (hKa.trans (Keep.alloc [] _ _)).trans hK8); have x1 := (hK9.cell (lt_of_cell2 r1) (by simp) 1).trans r1; have x2 := (hK9.cell (lt_of_cell2 r2) (by simp) 2).trans r2; have x3 := (hK9.cell (lt_of_cell2 t0) (by simp) 0).trans t0; have x4 := (hK9.cell (lt_of_cell2 hy2) (by simp) q).trans hy2; have x5 := (hK9.cell (lt_of_cell2 hx2) (by simp) (off + q)).trans hx2))
            all_goals (
              have hKend := hKwz.trans hK9
              clear x1 x2 x3 x4 x5 hKa hK6 hK8 hK9 hKwz HHz
              go_wp2_with fail
              go_roundw
              case rel => exact ⟨id, rfl, by omega, hKend⟩
              case measure => simp [intOf]; omega)
        · obtain ⟨sb, tb, hraw⟩ := HH4.out.raw
          obtain ⟨c0, c1, _⟩ := hraw.cells
          obtain ⟨F, hT⟩ := hraw.tab
          have HT := (show Hid (IsTab w4 tb F ds) from hT)
          clear hT hraw
          go_wp2_with (first | (go_at_call 19; refine (tclasses tb F ds _ HT.out).mono ?_; rw [HDL.out]; rintro e w' ⟨rfl, rfl⟩) | (go_at_call 12; refine (oobjects _ HH4.out).mono ?_; rw [HCN.out]; rintro e w5 ⟨va, vc, vs, rfl, _, _, hK5⟩) | (go_at_call 14; refine (awake9_any _).mono ?_; rintro e we ⟨rfl, hKe⟩))
          go_ret
          exact ⟨rfl, ((hKw.trans hK).trans hK5).trans hKe⟩
theorem walk (o0 : Option Addr) (len0 cap0 : Nat) (A0 : Nat → Nat) (w0 : len0 ≤ 9223372036854775807) (w : World) (u0 : U8At w o0 len0 A0) :
    Calls Try.prog 4 #[.slice o0 len0 cap0] w fun e w' => e = .returned (.bool true) ∧ Keep [] w w' :=
  classes_any o0 len0 cap0 A0 w w0 u0 (min len0 20) (by omega) (by omega) (by split <;> omega)

end Go.Proofs.Ytdpaffnpedcmpab.objectClasses
