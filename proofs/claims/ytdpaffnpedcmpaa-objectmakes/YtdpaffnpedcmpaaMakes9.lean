/-
  ObjectMakes: objects lie in blocks that have room for a head and their fields; all are told by address, with what they have.
-/
import Derived.Test.YtdpaffnpedcmpaaAwake9
import Derived.Test.YtdpaffnpedcmpaaEach9
import Derived.Test.YtdpaffnpedcmpaaSpaceSum
import Derived.Test.YtdpaffnpedcmpaaOpens
namespace Go.Proofs.Ytdpaffnpedcmpaa.objectMakes
open Go.RowKit

/-- Behind i objects that were made. -/
structure Inv (i : Nat) (kd : List PK) (ws : List Int) (u : Int) : Prop where
  fine : Fine ws kd []
  free : FreeFrom kd (1 + 2 * i)
  len : kd.length = 100
  cnt : (eachK kd).length = i
  used : usedK kd = u
  all : ∀ a m, findN kd a = some (a, m) → ∃ l : Int, Word (ws[a]?.getD 0) 3 0 l false ∧ l + 1 ≤ m ∧ (0 < l → 100 ≤ ws[a + l.toNat]?.getD 0)
theorem Inv.start : Inv 0 (freshK 100) (zeros (64 * 100)) 0 :=
  ⟨Fine.fresh 100 (by omega) (by omega), FreeFrom.fresh 100 (by omega), freshK_length 100, by rw [each_fresh 100 (by omega)]; rfl, used_fresh 100 (by omega), fun a m e => by rw [freshK_find 100 a (by omega)] at e; cases e⟩
theorem pages2 (l : Nat) (h : l < 100) : pagesI ((l : Int) + 1) ≤ (2 : Nat) := by
  unfold pagesI; split <;> (try split) <;> omega
theorem Inv.step {i : Nat} {kd : List PK} {ws : List Int} {u : Int} (h : Inv i kd ws u) (hi : i < 30) (l : Nat) (hl : l < 100) :
    ∃ (a b : Nat) (kd' : List PK) (ws' : List Int), MakeT kd ws [] 3 0 l false a 0 ws' kd' ∧ findI kd' a = some (a, b) ∧ blockI ((l : Int) + 1) = b ∧ b ≤ 1024 ∧ (l = 0 → Inv (i + 1) kd' ws' (u + b)) ∧
      (0 < l → ∃ ws'', PutT kd' ws' a ((l : Int) - 1) (100 + i) 0 ws'' ∧ Inv (i + 1) kd' ws'' (u + b)) := by
  have hm := may_data l (by omega) (by omega)
  obtain ⟨a, b, kd', t, r, e, g⟩ := make_from (ds := []) (s := 1 + 2 * i) (K := 2) ws h.fine.wf hm (.other (by omega)) (pages2 l hl) (by omega) (by rw [h.len]; omega) h.free
  obtain ⟨f', l'⟩ := t.fine h.fine
  have A := MakeT.at h.fine.wf h.fine.len hm r e
  have hg := room_ge ((l : Int) + 1) (by omega) (by omega)
  obtain ⟨_, c1, c2, c3, c4, c5⟩ := A.facts f'.wf
  obtain ⟨b', hb', _, _, _, _, _, h6, h7⟩ := r.spec h.fine.wf
  obtain rfl : b = b' := by rw [e] at hb'; omega
  have hlen := h.fine.len
  have hln := h.len
  have old : ∀ c m, findN kd' c = some (c, m) → c ≠ a → findN kd c = some (c, m) ∧ (c + m ≤ a ∨ a + b ≤ c) := by
    intro c m ec hne
    rw [h7] at ec
    split at ec
    · cases ec; exact absurd rfl hne
    · refine ⟨ec, ?_⟩
      obtain ⟨g1, g2, g3, g4, g5, g6⟩ := h.fine.wf.found ec
      rcases Nat.lt_or_ge a (c + m) with e1 | e1
      · rcases Nat.lt_or_ge c (a + b) with e2 | e2
        · have := g6 (max a c) (by omega) (by omega)
          rw [h6 (max a c) (by omega) (by omega)] at this
          cases this
        · exact .inr e2
      · exact .inl e1
  have hcnt : (eachK kd').length = i + 1 := by rw [r.count h.fine.wf, h.cnt]
  have hus : usedK kd' = u + b := by rw [r.used h.fine.wf, h.used, e]
  refine ⟨a, b, kd', _, t, by rw [find_nat]; exact A.2.1, e, c3, fun h0 => ⟨f', g.mono (by omega), by rw [l', h.len], hcnt, hus, fun c m ec => ?_⟩, fun h0 => ⟨_, .yes (a + 1 + (l - 1)) (.yes a b (l - 1) 3 0 l false A (by omega) (by omega) (by omega)) (by rw [f'.len]; omega), (PutT.yes (x := 100 + i) (a + 1 + (l - 1)) (.yes a b (l - 1) 3 0 l false A (show ((l : Int) - 1) = ((l - 1 : Nat) : Int) by omega) (by omega) (by omega)) (by rw [f'.len]; omega)).fine f' (by unfold inI; omega), g.mono (by omega), by rw [l', h.len], hcnt, hus, fun c m ec => ?_⟩⟩
  · by_cases hc : c = a
    · subst hc
      have : m = b := by rw [A.2.1] at ec; cases ec; rfl
      subst this
      exact ⟨l, A.2.2, by omega, fun h1 => by omega⟩
    · obtain ⟨e1, hd⟩ := old c m ec hc
      obtain ⟨x, w1, w2, w3⟩ := h.all c m e1
      have wb := w1.bd
      obtain ⟨g1, g2, g3, g4, g5, g6⟩ := h.fine.wf.found e1
      refine ⟨x, ?_, w2, fun hx => ?_⟩
      · rw [set_get_other _ _ _ _ (by omega), fill0_get _ _ _ _ (by omega), if_neg (by omega)]; exact w1
      · rw [set_get_other _ _ _ _ (by omega), fill0_get _ _ _ _ (by omega), if_neg (by omega)]; exact w3 hx
  · by_cases hc : c = a
    · subst hc
      have : m = b := by rw [A.2.1] at ec; cases ec; rfl
      subst this
      refine ⟨l, ?_, by omega, fun h1 => ?_⟩
      · rw [set_get_other _ _ _ _ (by omega)]; exact A.2.2
      · rw [Int.toNat_natCast, show c + l = c + 1 + (l - 1) by omega, set_get_same _ _ _ (by rw [f'.len]; omega)]; omega
    · obtain ⟨e1, hd⟩ := old c m ec hc
      obtain ⟨x, w1, w2, w3⟩ := h.all c m e1
      have wb := w1.bd
      obtain ⟨g1, g2, g3, g4, g5, g6⟩ := h.fine.wf.found e1
      refine ⟨x, ?_, w2, fun hx => ?_⟩
      · rw [set_get_other _ _ _ _ (by omega), set_get_other _ _ _ _ (by omega), fill0_get _ _ _ _ (by omega), if_neg (by omega)]; exact w1
      · rw [set_get_other _ _ _ _ (by omega), set_get_other _ _ _ _ (by omega), fill0_get _ _ _ _ (by omega), if_neg (by omega)]; exact w3 hx
/-- What the j-th object is. -/
theorem Inv.obj {i : Nat} {kd : List PK} {ws : List Int} {u : Int} (h : Inv i kd ws u) {vs : List OV} (hv : vs.map OV.o = objsK kd ws) (j : Nat) (hj : j < i) :
    ∃ (v : OV) (b l : Nat), vs[j]? = some v ∧ v.o = ⟨b, 3, 0, l, false, wordsL ws b l⟩ ∧ (eachK kd)[j]?.getD 0 = b ∧ l ≤ 1023 ∧ (0 < l → 100 ≤ (wordsL ws b l)[l - 1]?.getD 0) := by
  obtain ⟨b, m, k, c, l, f, h1, h2, h3, h4⟩ := each_at9 h.fine j (by rw [h.cnt]; exact hj)
  obtain ⟨l', w1, w2, w3⟩ := h.all b m h2.2.1
  obtain ⟨_, _, p1, p2, p3, p4⟩ := h2.2.2.parts
  obtain ⟨_, _, q1, q2, q3, q4⟩ := w1.parts
  obtain rfl : k = 3 := by rw [← p1, q1]
  obtain rfl : c = 0 := by rw [← p2, q2]
  obtain rfl : l = l' := by rw [← p3, q3]
  obtain rfl : f = false := by rw [← p4, q4]
  have hb := w1.bd
  obtain ⟨n, rfl⟩ := Int.eq_ofNat_of_zero_le hb.2.2.2.2.1
  have hvj : (vs.map OV.o)[j]? = some (objOf ws b) := by rw [hv]; unfold objsK; rw [List.getElem?_map, h1]; rfl
  rw [List.getElem?_map] at hvj
  cases hq : vs[j]? with
  | none => rw [hq] at hvj; cases hvj
  | some v =>
    rw [hq] at hvj
    simp only [Option.map_some, Option.some.injEq] at hvj
    refine ⟨v, b, n, rfl, by rw [hvj, h4], by rw [h1]; rfl, by omega, fun h0 => ?_⟩
    rw [wordsL_get _ _ _ _ (by rw [Int.toNat_natCast]; omega), show b + 1 + (n - 1) = b + n by omega]
    have := w3 (by omega)
    rw [Int.toNat_natCast] at this
    exact this

set_option maxRecDepth 100000 in
set_option maxHeartbeats 12800000 in
theorem makes_any (ao : Option Addr) (n cp : Nat) (A : Nat → Nat) (w : World) (hn : n ≤ 9223372036854775807) (hl : U8At w ao n A) :
    Calls Try.prog 5 #[.slice ao n cp] w fun e w' => e = .returned (.bool true) ∧ Keep [] w w' := by
  have HU := (show Hid (U8At w ao n A) from hl)
  clear hl
  go_enter Try.func5, Try.ntmps5
  go_wp2_with (first | (go_at_call 7; refine (onew_has 100 _ (by omega) (by omega)).mono ?_; rintro e w1 ⟨hb, rfl, hH⟩; have HH := (show Hid (Has w [] (heapA hb (zeros (64 * 100)) (freshK 100) []) w1) from hH); clear hH) | (go_at_call 8; refine (owhole _ HH.out).mono ?_; rintro e w' ⟨rfl, rfl⟩) | (go_at_call 9; refine (err_any _ _).mono ?_; rintro e w' ⟨rfl, rfl⟩))
  go_loopw [5, 6] (fun v i wr => ∃ (j : Nat) (kd : List PK) (ws : List Int) (u : Int), v = .int .i64 u ∧ i = .int .i64 j ∧ j ≤ n ∧ j ≤ 30 ∧ 0 ≤ u ∧ u ≤ 1024 * j ∧ Hid (Inv j kd ws u) ∧ Hid (Has w [] (heapA hb ws kd []) wr)) (fun _ i _ => 30 - (intOf i).toNat)
  case atStart => exact ⟨0, _, _, 0, rfl, rfl, by omega, by omega, by omega, by omega, Inv.start, HH⟩
  case round =>
    obtain ⟨j, kd, ws, u, rfl, rfl, hj, hj3, hu0, hu1, HV, HHr⟩ := hrel
    obtain ⟨w3, rfl⟩ : ∃ w3, w3 = wr := ⟨_, rfl⟩
    have hKw := HHr.out.K
    by_cases hlt : j < n ∧ j < 30
    · obtain ⟨hlt1, hlt2⟩ := hlt
      obtain ⟨p, off, rfl, hbs, hcell⟩ := HU.out.cells (by omega)
      have hc := (hKw.cell hbs (by simp) (off + j)).trans (hcell j hlt1)
      have hA := HU.out.lt j
      generalize A j = x at hc hA
      obtain ⟨l, hy⟩ : ∃ l : Nat, x % 100 = l := ⟨_, rfl⟩
      have hyi : (x : Int) % 100 = l := by omega
      have hl1 : l < 100 := by omega
      clear hcell hy
      obtain ⟨a, b, kd', ws', M, F1, B1, hb1, I0, I1⟩ := HV.out.step hlt2 l hl1
      have HM := (show Hid (MakeT kd ws [] 3 0 l false a 0 ws' kd') from M)
      have HF := (show Hid (findI kd' a = some (a, b)) from F1)
      have HB := (show Hid (blockI ((l : Int) + 1) = b) from B1)
      clear M F1 B1
      go_wp2_with fail
      refine (omake 3 0 l a 0 false ws' kd' _ HHr.out HM.out).mono ?_
      rintro e w4 ⟨rfl, hH4⟩
      obtain ⟨sb, tb, c0, c1⟩ := hH4.ptrs
      have HH4 := (show Hid (Has w [] (heapA hb ws' kd' []) w4) from hH4)
      clear hH4 HHr hKw hc
      by_cases hl0 : l = 0
      · subst hl0
        have HI := (show Hid (Inv (j + 1) kd' ws' (u + b)) from I0 rfl)
        clear I0 I1
        go_wp2_with (first | (go_at_call 9; refine (err_any _ _).mono ?_; rintro e w' ⟨rfl, rfl⟩) | (go_at_call 20; refine (ofind sb a _ HH4.out c0).mono ?_; rw [HF.out]; simp only [foundV]; rintro e w5 ⟨rfl, hK5⟩; have HH5 := (show Hid (Has w [] (heapA hb ws' kd' []) w5) from HH4.out.keep0 hK5); clear hK5) | (go_at_call 21; refine (rblock_any _ _).mono ?_; rw [show (1 : Int) = ((0 : Nat) : Int) + 1 by omega, HB.out]; rintro e w6 ⟨rfl, hK6⟩; have HH6 := (show Hid (Has w [] (heapA hb ws' kd' []) w6) from HH5.out.keep0 hK6); clear hK6))
        go_roundw
        case rel => exact ⟨j + 1, kd', ws', u + b, by go_num, by go_num, by omega, by omega, by omega, by omega, HI, HH6⟩
        case measure => simp [intOf]; omega
      · obtain ⟨ws'', P1, I2⟩ := I1 (by omega)
        obtain ⟨lm, hlm⟩ : ∃ lm : Int, (l : Int) - 1 = lm := ⟨_, rfl⟩
        rw [hlm] at P1
        have HI := (show Hid (Inv (j + 1) kd' ws'' (u + b)) from I2)
        obtain ⟨s, hs⟩ : ∃ s : Int, (100 : Int) + j = s := ⟨_, rfl⟩
        rw [hs] at P1
        have HP := (show Hid (PutT kd' ws' a lm s 0 ws'') from P1)
        have hd : decide (0 < (l : Int)) = true := decide_eq_true (by omega)
        clear I0 I1 P1 I2
        go_wp2_with (first | (go_at_call 9; refine (err_any _ _).mono ?_; rintro e w' ⟨rfl, rfl⟩) | (go_at_call 20; refine (ofind sb a _ HH4.out c0).mono ?_; rw [HF.out]; simp only [foundV]; rintro e w5 ⟨rfl, hK5⟩; have HH5 := (show Hid (Has w [] (heapA hb ws' kd' []) w5) from HH4.out.keep0 hK5); clear hK5) | (go_at_call 21; refine (rblock_any _ _).mono ?_; rw [HB.out]; rintro e w6 ⟨rfl, hK6⟩; have HH6 := (show Hid (Has w [] (heapA hb ws' kd' []) w6) from HH5.out.keep0 hK6); clear hK6))
        refine (oput a lm s 0 ws'' _ HH6.out HP.out (by unfold inI; omega)).mono ?_
        rintro e w7 ⟨rfl, hH7⟩
        have HH7 := (show Hid (Has w [] (heapA hb ws'' kd' []) w7) from hH7)
        clear hH7 HH6 HH5 HH4 hlm hs
        go_wp2_with fail
        go_roundw
        case rel => exact ⟨j + 1, kd', ws'', u + b, by go_num, by go_num, by omega, by omega, by omega, by omega, HI, HH7⟩
        case measure => simp [intOf]; omega
    · have hjm : j = min n 30 := by omega
      obtain ⟨sb, tb, c0, c1⟩ := HHr.out.ptrs
      have HE := (show Hid ((eachK kd).length = j) from HV.out.cnt)
      have HUS := (show Hid (usedK kd = u) from HV.out.used)
      have hmi : (if (n : Int) < 30 then (n : Int) else 30) = j := by split <;> omega
      clear hjm
      rcases (show (¬ j < n) ∨ (j < n ∧ ¬ j < 30) by omega) with hjn | ⟨hjn, hj30⟩
      all_goals (
        go_wp2_with (first | (go_at_call 14; refine (oobjects _ HHr.out).mono ?_; rw [HE.out]; rintro e w4 ⟨va, vc, vs, rfl, hO4, hvs, hK4⟩; obtain ⟨sb4, tb4, d0, d1⟩ := (HHr.out.keep0 hK4).ptrs; have HO4 := (show Hid (ObjsAt w3 w4 va j vc vs) from hO4); have HVS := (show Hid (vs.map OV.o = objsK kd ws) from hvs); clear hO4 hvs) | (go_at_call 22; refine (oused sb4 _ (HHr.out.keep0 hK4) d0).mono ?_; rw [HUS.out]; rintro e w5 ⟨rfl, hK5⟩))
        have HO5 := (show Hid (ObjsAt w3 w5 va j vc vs) from HO4.out.keep hK5 (by simp))
        have hKK := hKw.trans (hK4.trans hK5)
        clear HO4 hK4 hK5 d0 d1 c0 c1
        go_loopw [14] (fun v wr => ∃ q : Nat, v = .int .i64 q ∧ q ≤ j ∧ Keep [] w5 wr) (fun v _ => j - (intOf v).toNat)
        case atStart => exact ⟨0, rfl, by omega, Keep.refl _ _⟩
        case round =>
          obtain ⟨q, rfl, hq, hK⟩ := hrel
          obtain ⟨w6, rfl⟩ : ∃ w6, w6 = wr := ⟨_, rfl⟩
          by_cases hqj : q < j
          · obtain ⟨v, b, l, hv, hvo, heb, hl3, hlast⟩ := HV.out.obj HVS.out q hqj
            obtain ⟨g, rfl, hgs, hcell⟩ := HO5.out.cell (by omega)
            have x0 := (hK.cell hgs (by simp) _).trans (hcell q v 0 hv (by omega))
            have x1 := (hK.cell hgs (by simp) _).trans (hcell q v 1 hv (by omega))
            have x3 := (hK.cell hgs (by simp) _).trans (hcell q v 3 hv (by omega))
            have x5 := (hK.cell hgs (by simp) _).trans (hcell q v 5 hv (by omega))
            simp only [OV.cells, hvo, Nat.add_zero, List.getElem?_cons_zero, List.getElem?_cons_succ, wordsL_length, Int.toNat_natCast] at x0 x1 x3 x5
            obtain ⟨hRz, hzb, hzn⟩ := HO5.out.each q v hv
            rw [hvo] at hRz
            have hRz6 := hRz.keep hK (by simp)
            generalize v.z = z at *
            have HLS := (show Hid (0 < l → w6.cell? ⟨z, l - 1, none⟩ = some (.int .i64 ((wordsL ws b l)[l - 1]?.getD 0)) ∧ 100 ≤ (wordsL ws b l)[l - 1]?.getD 0 ∧ (wordsL ws b l)[l - 1]?.getD 0 ≤ 9223372036854775807) from fun h0 => ⟨hRz6.cell (by rw [wordsL_length, Int.toNat_natCast]; omega), hlast h0, (wordsL_bd HV.out.fine.ob.bd b l (l - 1)).2⟩)
            have hqi0 : (0 : Int) ≤ (q : Int) := by omega
            have hqi1 : (q : Int) < j := by omega
            clear hRz hRz6 hlast hzb hzn hv
            have x0d : w6.drew.cell? ⟨g, q * 6, none⟩ = some (.int .i64 b) := x0
            have HY := (show Hid (0 < q → ∃ b2 : Nat, w6.cell? ⟨g, (q - 1) * 6, none⟩ = some (.int .i64 b2) ∧ b2 < b) from fun h0 => by
              obtain ⟨v2, b2, l2, hv2, hvo2, heb2, _⟩ := HV.out.obj HVS.out (q - 1) (by omega)
              have y0 := (hK.cell hgs (by simp) _).trans (hcell (q - 1) v2 0 hv2 (by omega))
              simp only [OV.cells, hvo2, Nat.add_zero, List.getElem?_cons_zero] at y0
              refine ⟨b2, y0, ?_⟩
              have := HV.out.fine.wf.each_lt (i := q - 1) (j := q) (by omega) (by rw [HE.out]; omega)
              omega)
            clear hcell hvo heb
            by_cases hq0 : q = 0
            · subst hq0
              go_wp2_with fail
              go_quiet (fail)
              have x5q : (w6.drewN nq).cell? ⟨g, 0 * 6 + 5, none⟩ = some (.slice (some ⟨z, 0, none⟩) l l) := x5
              have HLQ := (show Hid (0 < l → (w6.drewN nq).cell? ⟨z, l - 1, none⟩ = some (.int .i64 ((wordsL ws b l)[l - 1]?.getD 0)) ∧ 100 ≤ (wordsL ws b l)[l - 1]?.getD 0 ∧ (wordsL ws b l)[l - 1]?.getD 0 ≤ 9223372036854775807) from HLS.out)
              have hK7 := hK.trans (Keep.drewN [] w6 nq)
              generalize w6.drewN nq = w7 at *
              clear x0 x1 x3 x5 HLS HY x0d hK 
              by_cases hl0 : l = 0
              · subst hl0
                clear HLQ
                go_wp2_with fail
                go_roundw
                case rel => exact ⟨0 + 1, by go_num, by omega, hK7⟩
                case measure => simp [intOf]; omega
              · obtain ⟨y1, y2, y3⟩ := HLQ.out (by omega)
                obtain ⟨lm, hlm⟩ : ∃ lm : Nat, l - 1 = lm := ⟨_, rfl⟩
                have hlmi : (l : Int) - 1 = lm := by omega
                have hlml : lm < l := by omega
                rw [hlm] at y1 y2 y3
                have hdl : decide (0 < (l : Int)) = true := decide_eq_true (by omega)
                clear hlm HLQ
                generalize (wordsL ws b l)[lm]?.getD 0 = y at *
                have hdy : decide (y < 100) = false := decide_eq_false (by omega)
                go_wp2_with fail
                go_roundw
                case rel => exact ⟨0 + 1, by go_num, by omega, hK7⟩
                case measure => simp [intOf]; omega
            · obtain ⟨b2, y0, hbb⟩ := HY.out (by omega)
              obtain ⟨qm, hqm⟩ : ∃ qm : Nat, q - 1 = qm := ⟨_, rfl⟩
              rw [hqm] at y0
              have hqmi : (q : Int) - 1 = qm := by omega
              have hqml : qm < j := by omega
              have hqm0 : (0 : Int) ≤ (qm : Int) := by omega
              have hqm1 : (qm : Int) < j := by omega
              have hdq : decide (0 < (q : Int)) = true := decide_eq_true (by omega)
              have hdq2 : decide (0 < q) = true := decide_eq_true (by omega)
              have hq1 : 0 < q := by omega
              have hdb2 : decide (b ≤ b2) = false := decide_eq_false (by omega)
              have hdb : decide ((b : Int) ≤ (b2 : Int)) = false := decide_eq_false (by omega)
              clear hqm
              go_wp2_with fail
              go_quiet (fail)
              have x5q : (w6.drewN nq).cell? ⟨g, q * 6 + 5, none⟩ = some (.slice (some ⟨z, 0, none⟩) l l) := x5
              have HLQ := (show Hid (0 < l → (w6.drewN nq).cell? ⟨z, l - 1, none⟩ = some (.int .i64 ((wordsL ws b l)[l - 1]?.getD 0)) ∧ 100 ≤ (wordsL ws b l)[l - 1]?.getD 0 ∧ (wordsL ws b l)[l - 1]?.getD 0 ≤ 9223372036854775807) from HLS.out)
              have hK7 := hK.trans (Keep.drewN [] w6 nq)
              generalize w6.drewN nq = w7 at *
              clear x0 x1 x3 x5 HLS HY x0d hK y0
              by_cases hl0 : l = 0
              · subst hl0
                clear HLQ
                go_wp2_with fail
                go_roundw
                case rel => exact ⟨q + 1, by go_num, by omega, hK7⟩
                case measure => simp [intOf]; omega
              · obtain ⟨y1, y2, y3⟩ := HLQ.out (by omega)
                obtain ⟨lm, hlm⟩ : ∃ lm : Nat, l - 1 = lm := ⟨_, rfl⟩
                have hlmi : (l : Int) - 1 = lm := by omega
                have hlml : lm < l := by omega
                rw [hlm] at y1 y2 y3
                have hdl : decide (0 < (l : Int)) = true := decide_eq_true (by omega)
                clear hlm HLQ
                generalize (wordsL ws b l)[lm]?.getD 0 = y at *
                have hdy : decide (y < 100) = false := decide_eq_false (by omega)
                go_wp2_with fail
                go_roundw
                case rel => exact ⟨q + 1, by go_num, by omega, hK7⟩
                case measure => simp [intOf]; omega
          · obtain rfl : q = j := by omega
            go_wp2_with (first | (go_at_call 16; refine (awake9_any _).mono ?_; rintro e we ⟨rfl, hKe⟩))
            go_ret
            exact ⟨rfl, (hKK.trans hK).trans hKe⟩)
theorem walk (o0 : Option Addr) (len0 cap0 : Nat) (A0 : Nat → Nat) (w0 : len0 ≤ 9223372036854775807) (w : World) (u0 : U8At w o0 len0 A0) :
    Calls Try.prog 5 #[.slice o0 len0 cap0] w fun e w' => e = .returned (.bool true) ∧ Keep [] w w' := makes_any o0 len0 cap0 A0 w w0 u0

end Go.Proofs.Ytdpaffnpedcmpaa.objectMakes
