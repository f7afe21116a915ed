/-
  ObjectKinds: which fields are addresses: those of a class, all, none, the one behind; finalizers are set once, on all but references.
-/
import Derived.Test.YtdpaffnpedcmpaaAwake9
import Derived.Test.YtdpaffnpedcmpaaListA
import Derived.Test.YtdpaffnpedcmpaaSame
import Derived.Test.YtdpaffnpedcmpaaOpens
namespace Go.Proofs.Ytdpaffnpedcmpaa.objectKinds
open Go.RowKit

theorem may_ref : mayH 4 2 5 false = true := by decide
theorem may_plain (F : Nat) (h : F ≤ 100) : mayH 1 1 F false = true := by
  rw [mayH_1, inB_yes (by omega) (by omega), inB_yes (by omega) (by omega)]; rfl
theorem pages_of (l : Int) (K : Nat) (h0 : 0 ≤ l) (hl : l + 1 ≤ 64 * K) (hK : 1 ≤ K) (h2 : l ≤ 1023) : pagesI (l + 1) ≤ K := by
  unfold pagesI; split <;> (try split) <;> omega
theorem at_set {kd : List PK} {ws : List Int} {k c l x : Int} {a m i : Nat} {f : Bool} (h : At kd ws a a m k c l f) (hi : i ≠ a) : At kd (ws.set i x) a a m k c l f := by
  obtain ⟨h1, h2, h3⟩ := h
  exact ⟨h1, h2, by rw [set_get_other _ _ _ _ hi]; exact h3⟩
theorem at_final {kd : List PK} {ws : List Int} {k c l : Int} {a m : Nat} (h : At kd ws a a m k c l false) (hk : k ≠ 4) (ha : a < ws.length) : At kd (ws.set a (putH k c l true)) a a m k c l true := by
  obtain ⟨h1, h2, h3⟩ := h
  exact ⟨h1, h2, by rw [set_get_same _ _ _ ha]; exact ⟨may_final h3.1 hk, rfl⟩⟩
theorem kinds_facts (F r : Nat) (L : List Int) (hF : F ≤ 100) (hr : r < 50) : ∃ (a b c d : Nat) (k1 k2 k3 k4 : List PK) (v1 v2 v3 v4 v5 : List Int),
    MakeT (freshK 30) (zeros (64 * 30)) [((F : Int), L)] 1 1 F false a 0 v1 k1 ∧ MakeT k1 v1 [((F : Int), L)] 2 0 r false b 0 v2 k2 ∧ MakeT k2 v2 [((F : Int), L)] 3 0 r false c 0 v3 k3 ∧ MakeT k3 v3 [((F : Int), L)] 4 2 5 false d 0 v4 k4 ∧
      FinalT k4 v4 a 0 v5 ∧ FinalT k4 v5 a 4 v5 ∧ FinalT k4 v5 d 5 v5 ∧ HeadT k4 v5 a 1 1 F true 0 ∧ RefsT k4 v5 [((F : Int), L)] a L ∧ RefsT k4 v5 [((F : Int), L)] b (upL r) ∧ RefsT k4 v5 [((F : Int), L)] c [] ∧ RefsT k4 v5 [((F : Int), L)] d [2] := by
  have f00 := Fine.fresh 30 (by omega) (by omega)
  have f0 : Fine (zeros (64 * 30)) (freshK 30) [((F : Int), L)] := ⟨f00.wf, by simpa using f00.ob.add ((F : Int), L), by simp, f00.len⟩
  have m1 := may_plain F hF
  have m2 := may_refs r (by omega) (by omega)
  have m3 := may_data r (by omega) (by omega)
  obtain ⟨a, s1, k1, t1, r1, e1, g1⟩ := make_from (kd := freshK 30) (ds := [((F : Int), L)]) (s := 1) (K := 2) (zeros (64 * 30)) f0.wf m1 (.yes 0 L rfl rfl rfl) (pages_of _ 2 (by omega) (by omega) (by omega) (by omega)) (by omega) (by rw [freshK_length]; omega) (FreeFrom.fresh 30 (by omega))
  obtain ⟨f1, l1⟩ := t1.fine f0
  rw [freshK_length] at l1
  have A1 := MakeT.at f0.wf f0.len m1 r1 e1
  obtain ⟨b, s2, k2, t2, r2, e2, g2⟩ := make_from (ds := [((F : Int), L)]) (s := 3) (K := 1) _ f1.wf m2 (.other (by omega)) (pages_of _ 1 (by omega) (by omega) (by omega) (by omega)) (by omega) (by rw [l1]; omega) g1
  obtain ⟨f2, l2⟩ := t2.fine f1
  have A2 := MakeT.at f1.wf f1.len m2 r2 e2
  obtain ⟨A1, d12⟩ := A1.made (x := putH 2 0 r false) f1.wf f1.len r2 e2
  obtain ⟨c, s3, k3, t3, r3, e3, g3⟩ := make_from (ds := [((F : Int), L)]) (s := 4) (K := 1) _ f2.wf m3 (.other (by omega)) (pages_of _ 1 (by omega) (by omega) (by omega) (by omega)) (by omega) (by rw [l2, l1]; omega) g2
  obtain ⟨f3, l3⟩ := t3.fine f2
  have A3 := MakeT.at f2.wf f2.len m3 r3 e3
  obtain ⟨A1, d13⟩ := A1.made (x := putH 3 0 r false) f2.wf f2.len r3 e3
  obtain ⟨A2, d23⟩ := A2.made (x := putH 3 0 r false) f2.wf f2.len r3 e3
  obtain ⟨d, s4, k4, t4, r4, e4, g4⟩ := make_from (ds := [((F : Int), L)]) (s := 5) (K := 1) _ f3.wf may_ref (.other (by omega)) (pages_of _ 1 (by omega) (by omega) (by omega) (by omega)) (by omega) (by rw [l3, l2, l1]; omega) g3
  obtain ⟨f4, l4⟩ := t4.fine f3
  have A4 := MakeT.at f3.wf f3.len may_ref r4 e4
  obtain ⟨A1, d14⟩ := A1.made (x := putH 4 2 5 false) f3.wf f3.len r4 e4
  obtain ⟨A2, d24⟩ := A2.made (x := putH 4 2 5 false) f3.wf f3.len r4 e4
  obtain ⟨A3, d34⟩ := A3.made (x := putH 4 2 5 false) f3.wf f3.len r4 e4
  obtain ⟨_, b1, b2, b3, b4, b5⟩ := A1.facts f4.wf
  obtain ⟨_, _, _, _, c4, _⟩ := A2.facts f4.wf
  obtain ⟨_, _, _, _, c5, _⟩ := A3.facts f4.wf
  obtain ⟨_, _, _, _, c6, _⟩ := A4.facts f4.wf
  have hl := f4.len
  have A5 := at_final A1 (by omega) (by omega)
  have B2 := at_set (x := putH 1 1 F true) (i := a) A2 (by omega)
  have B3 := at_set (x := putH 1 1 F true) (i := a) A3 (by omega)
  have B4 := at_set (x := putH 1 1 F true) (i := a) A4 (by omega)
  exact ⟨a, b, c, d, k1, k2, k3, k4, _, _, _, _, _, t1, t2, t3, t4, .yes a s1 1 1 F A1 (by omega), .has a s1 1 1 F A5 (by omega), .kind d s4 2 5 false B4, .yes a s1 1 1 F true A5, .plain a s1 0 1 F true L A5 rfl rfl, .refs b s2 0 r false B2, .data c s3 0 r false B3, .ref d s4 2 5 false B4⟩

/-- One more, above all. -/
theorem may_more {F : Nat} {L : List Int} {x : Int} (h : mayB F L = true) (h0 : 0 ≤ x) (h1 : x < F) (hl : L = [] ∨ L[L.length - 1]?.getD 0 < x) : mayB F (L ++ [x]) = true := by
  rw [mayB_iff] at h
  refine mayB_yes h.1 h.2.1 (fun i hi => ?_)
  simp at hi
  rcases Nat.lt_or_ge i L.length with e | e
  · obtain ⟨g1, g2, g3⟩ := h.2.2 i e
    refine ⟨by rw [snoc_old _ _ _ e]; exact g1, by rw [snoc_old _ _ _ e]; exact g2, fun hp => ?_⟩
    rw [snoc_old _ _ _ e, snoc_old _ _ _ (by omega)]; exact g3 hp
  · obtain rfl : i = L.length := by omega
    refine ⟨by rw [snoc_new _ _ _ rfl]; exact h0, by rw [snoc_new _ _ _ rfl]; exact h1, fun hp => ?_⟩
    rw [snoc_new _ _ _ rfl, snoc_old _ _ _ (by omega)]
    rcases hl with rfl | hl
    · simp at hp
    · exact hl
theorem may_bd {F : Nat} {L : List Int} (h : mayB F L = true) : ∀ i : Nat, -9223372036854775808 ≤ L[i]?.getD 0 ∧ L[i]?.getD 0 ≤ 9223372036854775807 := by
  rw [mayB_iff] at h
  intro i
  by_cases hi : i < L.length
  · obtain ⟨g1, g2, _⟩ := h.2.2 i hi
    have := h.2.1
    omega
  · rw [List.getElem?_eq_none (by omega)]; simp
/-- The first numbers, one by one. -/
theorem upL_succ (j : Nat) : upL ((j + 1 : Nat) : Int) = upL (j : Int) ++ [(j : Int)] := by
  unfold upL
  rw [Int.toNat_natCast, Int.toNat_natCast, List.range_succ, List.map_append]; rfl
theorem upL_bds (j : Nat) (hj : j ≤ 1000) : ∀ i : Nat, -9223372036854775808 ≤ (upL (j : Int))[i]?.getD 0 ∧ (upL (j : Int))[i]?.getD 0 ≤ 9223372036854775807 := fun i => upL_bd j (by omega) i

set_option maxRecDepth 100000 in
set_option maxHeartbeats 12800000 in
theorem kinds_any (a0 q0 : Nat) (ao : Option Addr) (n cp : Nat) (A : Nat → Nat) (w : World) (ha0 : a0 < 256) (hq0 : q0 < 256) (hn : n ≤ 9223372036854775807) (hl : U8At w ao n A) :
    Calls Try.prog 4 #[.int .u8 a0, .slice ao n cp, .int .u8 q0] w fun e w' => e = .returned (.bool true) ∧ Keep [] w w' := by
  obtain ⟨i0, hi, hz0, hz1, hz2⟩ := info_parts Try.infoIntC
  have hI : Hid (Try.prog.info? 3 = some i0 ∧ i0.zero = some (.int .i64 0) ∧ i0.size = 1 ∧ i0.bytes = 8) := ⟨hi, hz0, hz1, hz2⟩
  clear hi hz0 hz1 hz2
  have HU := (show Hid (U8At w ao n A) from hl)
  obtain ⟨fr, hfr⟩ : ∃ fr : Nat, a0 % 100 = fr := ⟨_, rfl⟩
  obtain ⟨F, hF⟩ : ∃ F : Nat, 1 + fr = F := ⟨_, rfl⟩
  obtain ⟨r, hr⟩ : ∃ r : Nat, q0 % 50 = r := ⟨_, rfl⟩
  have hfi : (a0 : Int) % 100 = fr := by omega
  have hFi : (1 : Int) + fr = F := by omega
  have hri : (q0 : Int) % 50 = r := by omega
  have hF1 : 1 ≤ F := by omega
  have hF2 : F ≤ 100 := by omega
  have hr5 : r < 50 := by omega
  have hF0 : (F : Int) ≠ 0 := by omega
  clear hl hfr hF hr
  go_enter Try.func4, Try.ntmps4
  go_wp2_with (first | (go_at_call 7; refine (onew_has 30 _ (by omega) (by omega)).mono ?_; rintro e w1 ⟨hb, rfl, hH⟩; have HH := (show Hid (Has w [] (heapA hb (zeros (64 * 30)) (freshK 30) []) w1) from hH); clear hH) | (go_at_call 8; refine (owhole _ HH.out).mono ?_; rintro e w' ⟨rfl, rfl⟩) | (go_at_call 9; refine (err_any _ _).mono ?_; rintro e w' ⟨rfl, rfl⟩))
  clear hfi hFi
  go_loopw [10, 11] (fun v i wr => ∃ (j ln : Nat) (L : List Int) (vv : Value), vv = v ∧ i = .int .i64 j ∧ j ≤ n ∧ j ≤ F ∧ ln ≤ j ∧ Hid (L.length = ln) ∧ Hid (wr.ownsRow w1.heap.size 3 1 v ln (ints L)) ∧ Hid (mayB F L = true) ∧ Keep [] w1 wr) (fun _ i _ => F - (intOf i).toNat)
  case atStart => exact ⟨0, 0, [], _, rfl, rfl, by omega, by omega, by omega, rfl, World.ownsRow_nil _ _ _ _, mayB_yes (by omega) (by omega) (fun i hi => by simp at hi), Keep.refl _ _⟩
  case round =>
    obtain ⟨j, ln, L, v, hvv, rfl, hj, hjF, hlj, HLN, HO, HMB, hK⟩ := hrel
    obtain ⟨w3, rfl⟩ : ∃ w3, w3 = wr := ⟨_, rfl⟩
    subst hvv
    have hKw := HH.out.K.trans hK
    by_cases hlt : j < n ∧ j < F
    · obtain ⟨hlt1, hlt2⟩ := hlt
      obtain ⟨b, off, rfl, hbs, hcell⟩ := HU.out.cells (by omega)
      have hc := (hKw.cell hbs (by simp) (off + j)).trans (hcell j hlt1)
      have hA := HU.out.lt j
      generalize A j = x at hc hA
      obtain ⟨y, hy⟩ : ∃ y : Nat, x % F = y := ⟨_, rfl⟩
      have hyi : (x : Int) % (F : Int) = y := by rw [← hy]; rfl
      have hyt : (x : Int).tmod (F : Int) = y := by rw [Int.tmod_eq_emod_of_nonneg (by omega)]; exact hyi
      have hyb : y < F := by rw [← hy]; exact Nat.mod_lt _ (by omega)
      have hsz3 := hK.size
      clear hcell hy
      by_cases hL0 : L = []
      · have HM2 := (show Hid (mayB F (L ++ [(y : Int)]) = true) from may_more HMB.out (by omega) (by omega) (.inl hL0))
        obtain rfl : ln = 0 := by rw [← HLN.out, hL0]; rfl
        have hv0 : ∃ la lc, v = .slice la 0 lc := by
          rcases HO.out.2 with ⟨e, _⟩ | ⟨g, cap, cur, e, _⟩
          · exact ⟨_, _, e⟩
          · exact ⟨_, _, e⟩
        obtain ⟨la, lc, rfl⟩ := hv0
        go_wp2_with (first | (at_builtin; refine append_ints rfl (.tmp 77) (.tmp 79) 38 rfl w1.heap.size 3 i0 Try.underlying38 hI.out _ 0 L [(y : Int)] rfl (HO.out.alloc _) (some ⟨w3.heap.size, 0, none⟩) 1 1 rfl rfl (IntsAt.single w3 3 y (by omega) (by omega)) (fun e => by cases e) (by omega) (by have := hK.size; simp; omega) ?_; intro v' w5 hown5 hgrow; have HK5 := (show Hid (Keep [] w1 w5) from (hK.trans (Keep.alloc [] _ _)).grown hgrow (own_block HO.out)); have HO5 := (show Hid (w5.ownsRow w1.heap.size 3 1 v' (0 + 1) (ints (L ++ [(y : Int)]))) from hown5); clear hown5 hgrow))
        go_roundw
        case rel => exact ⟨j + 1, 0 + 1, L ++ [(y : Int)], _, rfl, by go_num, by omega, by omega, by omega, (by show _ = _; rw [List.length_append, HLN.out]; rfl), HO5, HM2, HK5.out⟩
        case measure => simp [intOf]; omega
      · have hlp : 1 ≤ ln := by
          rw [← HLN.out]
          rcases L with _ | ⟨z, L⟩
          · exact absurd rfl hL0
          · simp
        obtain ⟨g, cap, rfl, hgb, hgs, hIG⟩ : ∃ g cap, v = .slice (some ⟨g, 0, none⟩) ln cap ∧ w1.heap.size ≤ g ∧ g < w3.heap.size ∧ IntsAt w3 (some ⟨g, 0, none⟩) L := by
          rcases own_ints HO.out (may_bd HMB.out) with ⟨_, e, _⟩ | ⟨g, cap, e, _, h1, h2, h3⟩
          · exact absurd e hL0
          · exact ⟨g, cap, by rw [e, HLN.out], h1, h2, h3⟩
        obtain ⟨p, off2, e, _, hcl⟩ := hIG.cells (by rw [HLN.out]; omega)
        cases e
        have hcl2 := hcl (ln - 1) (by rw [HLN.out]; omega)
        rw [Nat.zero_add] at hcl2
        have hlow := (may_bd HMB.out (ln - 1)).1
        have hhigh := (may_bd HMB.out (ln - 1)).2
        obtain ⟨z, hz⟩ : ∃ z, L[ln - 1]?.getD 0 = z := ⟨_, rfl⟩
        have HZ := (show Hid (L[ln - 1]?.getD 0 = z) from hz)
        rw [hz] at hcl2 hlow hhigh
        obtain ⟨lm, hlm⟩ : ∃ lm : Nat, ln - 1 = lm := ⟨_, rfl⟩
        rw [hlm] at hcl2
        have hlmi : (ln : Int) - 1 = lm := by omega
        have hlml : lm < ln := by omega
        have hln0 : ((ln : Int) == 0) = false := by simp; omega
        clear hz hcl hIG hL0
        by_cases hzy : z < (y : Int)
        · have HM2 := (show Hid (mayB F (L ++ [(y : Int)]) = true) from may_more HMB.out (by omega) (by omega) (.inr (by rw [HLN.out, HZ.out]; exact hzy)))
          clear hlm
          go_wp2_with (first | (at_builtin; refine append_ints rfl (.tmp 77) (.tmp 79) 38 rfl w1.heap.size 3 i0 Try.underlying38 hI.out _ ln L [(y : Int)] rfl (HO.out.alloc _) (some ⟨w3.heap.size, 0, none⟩) 1 1 rfl rfl (IntsAt.single w3 3 y (by omega) (by omega)) (fun e => by cases e) (by omega) (by have := hK.size; simp; omega) ?_; intro v' w5 hown5 hgrow; have HK5 := (show Hid (Keep [] w1 w5) from (hK.trans (Keep.alloc [] _ _)).grown hgrow (own_block HO.out)); have HO5 := (show Hid (w5.ownsRow w1.heap.size 3 1 v' (ln + 1) (ints (L ++ [(y : Int)]))) from hown5); clear hown5 hgrow))
          go_roundw
          case rel => exact ⟨j + 1, ln + 1, L ++ [(y : Int)], _, rfl, by go_num, by omega, by omega, by omega, (by show _ = _; rw [List.length_append, HLN.out]; rfl), HO5, HM2, HK5.out⟩
          case measure => simp [intOf]; omega
        · have hzd : decide (z < (y : Int)) = false := decide_eq_false hzy
          clear hlm
          go_wp2_with fail
          go_roundw
          case rel => exact ⟨j + 1, ln, L, _, rfl, by go_num, by omega, by omega, by omega, HLN, HO, HMB, hK⟩
          case measure => simp [intOf]; omega
    · obtain ⟨la, lc, rfl, hlc, hH3⟩ := HH.out.listed hK HO.out (may_bd HMB.out)
      rw [HLN.out]
      obtain ⟨sb, tb, c0, c1⟩ := hH3.fst.ptrs
      have HH3 := (show Hid (Has w [] ((heapA hb (zeros (64 * 30)) (freshK 30) []).star (listA la L)) w3) from hH3)
      have HLC := (show Hid (la = none → lc = 0) from hlc)
      have HAD := (show Hid (addN [] F L = 1 ∧ addE [] F L = 0 ∧ addR [] F L = [((F : Int), L)]) from ⟨by simp [addN, HMB.out], by simp [addE, HMB.out], by simp [addR, HMB.out]⟩)
      obtain ⟨a, b, c, d, k1, k2, k3, k4, v1, v2, v3, v4, v5, T1, T2, T3, T4, E1, E2, E3, G1, R1, R2, R3, R4⟩ := kinds_facts F r L hF2 hr5
      have HT1 := (show Hid (MakeT (freshK 30) (zeros (64 * 30)) [((F : Int), L)] 1 1 F false a 0 v1 k1) from T1)
      have HT2 := (show Hid (MakeT k1 v1 [((F : Int), L)] 2 0 r false b 0 v2 k2) from T2)
      have HT3 := (show Hid (MakeT k2 v2 [((F : Int), L)] 3 0 r false c 0 v3 k3) from T3)
      have HT4 := (show Hid (MakeT k3 v3 [((F : Int), L)] 4 2 5 false d 0 v4 k4) from T4)
      have HE1 := (show Hid (FinalT k4 v4 a 0 v5) from E1)
      have HE2 := (show Hid (FinalT k4 v5 a 4 v5) from E2)
      have HE3 := (show Hid (FinalT k4 v5 d 5 v5) from E3)
      have HG1 := (show Hid (HeadT k4 v5 a 1 1 F true 0) from G1)
      have HR1 := (show Hid (RefsT k4 v5 [((F : Int), L)] a L) from R1)
      have HR2 := (show Hid (RefsT k4 v5 [((F : Int), L)] b (upL r)) from R2)
      have HR3 := (show Hid (RefsT k4 v5 [((F : Int), L)] c []) from R3)
      have HR4 := (show Hid (RefsT k4 v5 [((F : Int), L)] d [2]) from R4)
      clear T1 T2 T3 T4 E1 E2 E3 G1 R1 R2 R3 R4 hH3 HH HO hK hKw hlc HU
      rcases (show (¬ j < n) ∨ (j < n ∧ ¬ j < F) by omega) with hjn | ⟨hjn, hjF2⟩
      all_goals (
        go_wp2_with fail
        refine (has_left HH3.out (fun F0 hF0 => oof tb F la ln lc L _ hF0 c1 HH3.out.snd.list HLC.out HLN.out (by omega))).mono ?_
        rw [HAD.out.1, HAD.out.2.1, HAD.out.2.2]
        rintro e w4 ⟨rfl, hH4⟩
        have HH4 := (show Hid (Has w [] ((heapA hb (zeros (64 * 30)) (freshK 30) [((F : Int), L)]).star (listA la L)) w4) from hH4)
        clear hH4 HH3 c0 c1
        go_wp2_with (first | (go_at_call 9; refine (err_any _ _).mono ?_; rintro e w' ⟨rfl, rfl⟩))
        refine (has_left HH4.out (fun F0 hF0 => omake 1 1 F a 0 false v1 k1 _ hF0 HT1.out)).mono ?_
        rintro e w5 ⟨rfl, hH5⟩
        have HH5 := (show Hid (Has w [] ((heapA hb v1 k1 [((F : Int), L)]).star (listA la L)) w5) from hH5)
        clear hH5 HH4
        go_wp2_with (first | (go_at_call 9; refine (err_any _ _).mono ?_; rintro e w' ⟨rfl, rfl⟩))
        refine (has_left HH5.out (fun F0 hF0 => omake 2 0 r b 0 false v2 k2 _ hF0 HT2.out)).mono ?_
        rintro e w6 ⟨rfl, hH6⟩
        have HH6 := (show Hid (Has w [] ((heapA hb v2 k2 [((F : Int), L)]).star (listA la L)) w6) from hH6)
        clear hH6 HH5
        go_wp2_with (first | (go_at_call 9; refine (err_any _ _).mono ?_; rintro e w' ⟨rfl, rfl⟩))
        refine (has_left HH6.out (fun F0 hF0 => omake 3 0 r c 0 false v3 k3 _ hF0 HT3.out)).mono ?_
        rintro e w7 ⟨rfl, hH7⟩
        have HH7 := (show Hid (Has w [] ((heapA hb v3 k3 [((F : Int), L)]).star (listA la L)) w7) from hH7)
        clear hH7 HH6
        go_wp2_with (first | (go_at_call 9; refine (err_any _ _).mono ?_; rintro e w' ⟨rfl, rfl⟩))
        refine (has_left HH7.out (fun F0 hF0 => omake 4 2 5 d 0 false v4 k4 _ hF0 HT4.out)).mono ?_
        rintro e w8 ⟨rfl, hH8⟩
        have HH8 := (show Hid (Has w [] ((heapA hb v4 k4 [((F : Int), L)]).star (listA la L)) w8) from hH8)
        clear hH8 HH7
        go_wp2_with fail
        go_loopw [23, 24] (fun v i wr => ∃ (j : Nat) (vv : Value), vv = v ∧ i = .int .i64 j ∧ j ≤ r ∧ Hid (wr.ownsRow w8.heap.size 3 1 v j (ints (upL (j : Int)))) ∧ Keep [] w8 wr) (fun _ i _ => r - (intOf i).toNat)
        case atStart => exact ⟨0, _, rfl, rfl, by omega, World.ownsRow_nil _ _ _ _, Keep.refl _ _⟩
        case round =>
          obtain ⟨q, v, hvv, rfl, hq, HO, hK⟩ := hrel
          obtain ⟨w9, rfl⟩ : ∃ w9, w9 = wr := ⟨_, rfl⟩
          subst hvv
          have hsz9 := hK.size
          by_cases hqr : q < r
          · go_wp2_with (first | (at_builtin; refine append_ints rfl (.tmp 130) (.tmp 132) 38 rfl w8.heap.size 3 i0 Try.underlying38 hI.out _ q (upL (q : Int)) [(q : Int)] rfl (HO.out.alloc _) (some ⟨w9.heap.size, 0, none⟩) 1 1 rfl rfl (IntsAt.single w9 3 q (by omega) (by omega)) (fun e => by cases e) (by omega) (by simp; omega) ?_; intro v' w5 hown5 hgrow; have HK5 := (show Hid (Keep [] w8 w5) from (hK.trans (Keep.alloc [] _ _)).grown hgrow (own_block HO.out)); have HO5 := (show Hid (w5.ownsRow w8.heap.size 3 1 v' (q + 1) (ints (upL ((q + 1 : Nat) : Int)))) from by show World.ownsRow _ _ _ _ _ _ _; rw [upL_succ]; exact hown5); clear hown5 hgrow))
            go_roundw
            case rel => exact ⟨q + 1, _, rfl, by go_num, by omega, HO5, HK5.out⟩
            case measure => simp [intOf]; omega
          · obtain rfl : q = r := by omega
            obtain ⟨lb, lbc, rfl, hlbc, hH9⟩ := HH8.out.listed hK HO.out (upL_bds q (by omega))
            have HUL := (show Hid ((upL (q : Int)).length = q) from by show _ = _; rw [upL_length]; rfl)
            rw [HUL.out]
            have HH9 := (show Hid (Has w [] (((heapA hb v4 k4 [((F : Int), L)]).star (listA la L)).star (listA lb (upL (q : Int)))) w9) from hH9)
            clear hH9 HH8 HO hK hlbc
            go_wp2_with fail
            refine (has_left HH9.out (fun F0 hF0 => has_left hF0 (fun F1 hF1 => ofinal a 0 v5 _ hF1 HE1.out))).mono ?_
            rintro e w10 ⟨rfl, hH10⟩
            have HH10 := (show Hid (Has w [] (((heapA hb v5 k4 [((F : Int), L)]).star (listA la L)).star (listA lb (upL (q : Int)))) w10) from hH10)
            clear hH10 HH9
            go_wp2_with fail
            refine (has_left HH10.out (fun F0 hF0 => has_left hF0 (fun F1 hF1 => ofinal a 4 v5 _ hF1 HE2.out))).mono ?_
            rintro e w11 ⟨rfl, hH11⟩
            have HH11 := (show Hid (Has w [] (((heapA hb v5 k4 [((F : Int), L)]).star (listA la L)).star (listA lb (upL (q : Int)))) w11) from hH11)
            clear hH11 HH10
            go_wp2_with fail
            refine (has_left HH11.out (fun F0 hF0 => has_left hF0 (fun F1 hF1 => ofinal d 5 v5 _ hF1 HE3.out))).mono ?_
            rintro e w12 ⟨rfl, hH12⟩
            have HH12 := (show Hid (Has w [] (((heapA hb v5 k4 [((F : Int), L)]).star (listA la L)).star (listA lb (upL (q : Int)))) w12) from hH12)
            clear hH12 HH11
            go_wp2_with (first | (go_at_call 13; refine (ohead a 1 1 F 0 true _ HH12.out.fst.fst HG1.out).mono ?_; rintro e w13 ⟨rfl, hK13⟩; have hx13 := heap_alloc_new w13 (.cells #[.int .i64 1, .int .i64 1, .int .i64 F, .bool true] 31); have HH14 := (show Hid (Has w [] (((heapA hb v5 k4 [((F : Int), L)]).star (listA la L)).star (listA lb (upL (q : Int)))) (w13.alloc (.cells #[.int .i64 1, .int .i64 1, .int .i64 F, .bool true] 31))) from (HH12.out.keep0 hK13).keep0 (Keep.alloc [] _ _)); clear hK13 HH12) | (go_at_call 9; refine (err_any _ _).mono ?_; rintro e w' ⟨rfl, rfl⟩))
            generalize w13.alloc (.cells #[.int .i64 1, .int .i64 1, .int .i64 F, .bool true] 31) = w14 at *
            generalize w13.heap.size = bx at *
            refine (orefs a L _ HH14.out.fst.fst HR1.out).mono ?_
            rw [HLN.out]
            rintro e w15 ⟨ra, rc, rfl, hI15, _, hK15⟩
            go_wp2_with fail
            refine (same_eq ra la ln rc lc L _ hI15 ((HH14.out.keep0 hK15).fst.snd.list) HLN.out (by omega)).mono ?_
            rintro e w16 ⟨rfl, hK16⟩
            have hK146 := hK15.trans hK16
            go_wp2_with fail
            refine (orefs b (upL (q : Int)) _ (HH14.out.keep0 hK146).fst.fst HR2.out).mono ?_
            rw [HUL.out]
            rintro e w17 ⟨rb, rbc, rfl, hI17, _, hK17⟩
            have hK147 := hK146.trans hK17
            go_wp2_with fail
            refine (same_eq rb lb q rbc lbc (upL (q : Int)) _ hI17 ((HH14.out.keep0 hK147).snd.list) HUL.out (by omega)).mono ?_
            rintro e w18 ⟨rfl, hK18⟩
            have hK148 := hK147.trans hK18
            go_wp2_with fail
            refine (orefs c [] _ (HH14.out.keep0 hK148).fst.fst HR3.out).mono ?_
            rintro e w19 ⟨rd, rdc, rfl, _, _, hK19⟩
            have hK149 := hK148.trans hK19
            go_wp2_with fail
            refine (orefs d [2] _ (HH14.out.keep0 hK149).fst.fst HR4.out).mono ?_
            rintro e w20 ⟨re, rec, rfl, hI20, _, hK20⟩
            have hK1420 := (hK149.trans hK20).trans (Keep.alloc [] w20 (.cells #[.int .i64 2] 3))
            go_wp2_with fail
            refine (same_eq re (some ⟨w20.heap.size, 0, none⟩) 1 rec 1 [2] _ (hI20.keep (Keep.alloc [] _ _) (by simp [Off])) (IntsAt.single w20 3 2 (by omega) (by omega)) rfl (by omega)).mono ?_
            rintro e w21 ⟨rfl, hK21⟩
            have hx21 := (hK1420.trans hK21).blk hx13 (by simp)
            obtain ⟨u0, u1, u2, u3⟩ := four_cells hx21
            have hKK := HH14.out.K.trans (hK1420.trans hK21)
            go_wp2_with (first | (go_at_call 9; refine (err_any _ _).mono ?_; rintro e w' ⟨rfl, rfl⟩) | (go_at_call 16; refine (awake9_any _).mono ?_; rintro e we ⟨rfl, hKe⟩))
            go_ret
            exact ⟨rfl, hKK.trans hKe⟩)

theorem walk (a0 : Int) (o1 : Option Addr) (len1 cap1 : Nat) (A1 : Nat → Nat) (a2 : Int) (w0 : (Lit.int .u8 a0).wf = true) (w1 : len1 ≤ 9223372036854775807) (w2 : (Lit.int .u8 a2).wf = true) (w : World) (u1 : U8At w o1 len1 A1) :
    Calls Try.prog 4 #[.int .u8 a0, .slice o1 len1 cap1, .int .u8 a2] w fun e w' => e = .returned (.bool true) ∧ Keep [] w w' := by
  have h0 := bounds_u8 w0
  have h2 := bounds_u8 w2
  obtain ⟨n, rfl⟩ := Int.eq_ofNat_of_zero_le h0.1
  obtain ⟨q, rfl⟩ := Int.eq_ofNat_of_zero_le h2.1
  exact kinds_any n q o1 len1 cap1 A1 w (by omega) (by omega) w1 u1

end Go.Proofs.Ytdpaffnpedcmpaa.objectKinds
