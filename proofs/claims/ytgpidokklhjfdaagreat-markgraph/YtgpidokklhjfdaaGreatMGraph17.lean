/-
  MarkGraph answers true, whatever it is given.
-/
import Derived.Test.YtgpidokklhjfdaaGreatPart8
import Derived.Test.YtgpidokklhjfdaaGreatModel17
import Derived.Test.YtgpidokklhjfdaaGreatMGraphM
import Derived.Test.YtgpidokklhjfdaaGreatAwake17
import Derived.Test.YtgpidokklhjfdaaGreatSome17
import Derived.Test.YtgpidokklhjfdaaGreatMarks17
import Derived.Test.YtgpidokklhjfdaaGreatObjSame
import Derived.Test.YtgpidokklhjfdaaGreatRHeapObjs
import Derived.Test.YtgpidokklhjfdaaGreatDuo9
import Derived.Test.YtgpidokklhjfdaaGreatSame
import Derived.Deep.RegionHeld3
namespace Go.Proofs.YtgpidokklhjfdaaGreat.markGraph
open Go.RowKit
set_option maxRecDepth 100000 in
set_option maxHeartbeats 25600000 in
theorem mgraph_any (no : Option Addr) (m nc n : Nat) (B : Nat → Nat) (ro : Option Addr) (p pc : Nat) (BR : Nat → Nat) (mo : Option Addr) (r rc : Nat) (BM : Nat → Nat) (nn t64 k : Nat) (w : World) (hn : min m 24 = n) (hU : U8At w no m B) (hA : U8At w ro p BR) (hB : U8At w mo r BM) (hm63 : m ≤ 9223372036854775807) (hp63 : p ≤ 9223372036854775807) (hr63 : r ≤ 9223372036854775807)
    (_ : nn < 65536) (h64 : (nn : Int) % 64 = t64) (hk : 1 + (t64 : Int) = k) (hk1 : 1 ≤ k) (_ : k ≤ 64) :
    Calls Tryz.prog 3 #[.slice no m nc, .slice ro p pc, .slice mo r rc, .int .u16 nn] w fun e w' => e = .returned (.bool true) ∧ Keep [] w w' := by
  obtain ⟨W, K, A, hG⟩ := graph_ex B m n hU.lt (by omega)
  have hO := hG.ot n (Nat.le_refl _)
  have hGR := graph_any no m nc n B W K A w hn hG hU hm63
  have hMD := fun (wx : World) (K0 : Keep [] w wx) => model_any no m nc n B W K A wx hn hG (hU.keep K0 (by simp)) hm63
  have hn24 := hG.few
  have hLI := hG.bd
  have hLl := aL_length A n
  have hAG := fun i (hi : i < n) => aL_get A n i hi
  have hAB := fun i (hi : i < n) => hO.bd i hi
  generalize gW B m n W A n = ws at *
  generalize K n = kd at *
  generalize aL A n = L at *
  obtain ⟨Lx, hLx⟩ : ∃ Lx, someL L n BR (min p 6) = Lx := ⟨_, rfl⟩
  obtain ⟨Ly, hLy⟩ : ∃ Ly, someL L n BM (min r 4) = Ly := ⟨_, rfl⟩
  obtain ⟨qx, hqx⟩ : ∃ qx, Lx.length = qx := ⟨_, rfl⟩
  obtain ⟨qy, hqy⟩ : ∃ qy, Ly.length = qy := ⟨_, rfl⟩
  have hqx5 : qx ≤ 6 := by rw [← hqx, ← hLx, someL_length]; omega
  have hqy5 : qy ≤ 6 := by rw [← hqy, ← hLy, someL_length]; omega
  have hxI : inR Lx := by rw [← hLx]; exact someL_in hLI hA.lt _
  have hyI : inR Ly := by rw [← hLy]; exact someL_in hLI hB.lt _
  have hOk : MOk kd ws dsG (offs ws.length) := MOk.offs
  obtain ⟨ys1, hT1⟩ := markT_ex hO.fine _ hOk.len Lx
  have hOk1 := hT1.ok hOk
  obtain ⟨ys2, hT2⟩ := markT_ex hO.fine _ hOk1.len Ly
  have hOk2 := hT2.ok hOk1
  have hcnt : ∀ zs : List Bool, zs.length = ws.length → (∀ x, onM zs x = true → isAt kd x = true) → cntA zs ≤ 24 := fun zs _ hz => by have := hO.few hz; omega
  have hr8 : ∀ x R, RefsT kd ws dsG x R → R.length ≤ 8 := fun x R h => hO.refs8 h
  have h0 : onM ys2 0 = false := by
    cases e : onM ys2 0 with
    | false => rfl
    | true =>
      obtain ⟨j, hj, e2⟩ := hO.all 0 (hOk2.obj 0 e)
      have := hAB j hj
      omega
  obtain ⟨N, hN⟩ : ∃ N, ws.length = N := ⟨_, rfl⟩
  have hN2 : N ≤ 16384 := by rw [← hN]; have := hO.fine.len; have := hO.fine.wf.len2; omega
  rw [hN] at hOk hT1
  have HGR := hid hGR
  have HMD := hid hMD
  have HA := hid hA
  have HB := hid hB
  have HLI := hid hLI
  have HLl := hid hLl
  have HXE := (show Hid (someL L n BR (min p 6) = Lx ∧ Lx.length = qx ∧ inR Lx) from ⟨hLx, hqx, hxI⟩)
  have HYE := (show Hid (someL L n BM (min r 4) = Ly ∧ Ly.length = qy ∧ inR Ly) from ⟨hLy, hqy, hyI⟩)
  have HM := (show Hid (MOk kd ws dsG (offs N) ∧ MOk kd ws dsG ys1 ∧ MOk kd ws dsG ys2) from ⟨hOk, hOk1, hOk2⟩)
  have HN := (show Hid (ws.length = N ∧ (offs N).length = N ∧ ys1.length = N ∧ ys2.length = N) from ⟨hN, offs_length N, by rw [hOk1.len, hN], by rw [hOk2.len, hN]⟩)
  have HT := (show Hid (MarkT kd ws dsG (offs N) Lx ys1 ∧ MarkT kd ws dsG ys1 Ly ys2) from ⟨hT1, hT2⟩)
  have HCR := (show Hid ((∀ zs : List Bool, zs.length = ws.length → (∀ x, onM zs x = true → isAt kd x = true) → cntA zs ≤ 24) ∧ ∀ x R, RefsT kd ws dsG x R → R.length ≤ 8) from ⟨hcnt, hr8⟩)
  have HZ := (show Hid (onM ys2 0 = false ∧ Fine ws kd dsG) from ⟨h0, hO.fine⟩)
  have HAG := (show Hid (∀ i, i < n → L[i]?.getD 0 = (A i : Int) ∧ A i < N) from fun i hi => ⟨hAG i hi, by rw [← hN]; exact (hAB i hi).2.1⟩)
  clear hG hO hGR hMD hU hA hB hLI hLl hLx hLy hqx hqy hxI hyI hOk hOk1 hOk2 hT1 hT2 hn hN hcnt hr8 h0 hAG hAB
  go_enter Tryz.func3, Tryz.ntmps3
  go_wp2_with fail
  refine HGR.out.mono ?_
  rintro e w1 ⟨hb, la, lc, rfl, hX⟩
  have HX := hid hX
  clear hX HGR
  go_wp2_with fail
  refine (HMD.out w1 HX.out.K).mono ?_
  rintro e w2 ⟨mb, la2, lc2, rfl, hX2⟩
  have HX2 := (show Hid (Has w [] ((heapA hb ws kd dsG).star ((rheapA mb ws kd dsG).star (midA 3 (.slice la n lc) L))) w2) from (HX.out.join hX2.fst).swap.assoc)
  clear hX2 HX HMD
  go_wp2_with fail
  refine (has_left_ex HX2.out (fun F hF => tnew_yes k _ hF hk1 (by omega))).mono ?_
  rintro e w3 ⟨tb, rfl, hX3⟩
  rw [HN.out.1] at hX3
  have HX3 := hid hX3
  obtain ⟨bb3, _, ct, _⟩ := hX3.fst.snd.trb
  clear hX3 HX2
  go_wp2_with (first | (go_at_call 7; refine (err_any _ _).mono ?_; rintro e w' ⟨rfl, rfl⟩))
  refine (has_left_ex HX3.out.comm.assoc (fun F hF => rmarks_new _ hF)).mono ?_
  rw [HN.out.1]
  rintro e w4 ⟨g, rfl, hX4⟩
  have HX4 := (show Hid (Has w [] (((heapA hb ws kd dsG).star (trA tb hb k (offs N))).star (((rheapA mb ws kd dsG).star (brA g (offs N))).star (midA 3 (.slice la n lc) L))) w4) from hX4.assoc'.comm)
  clear hX4 HX3 ct
  go_wp2_with fail

  clear h64 hk
  go_loopw [17] (fun v wr => (v = .int .i64 0 ∧ Hid (Has w [] (((heapA hb ws kd dsG).star (trA tb hb k (offs N))).star (((rheapA mb ws kd dsG).star (brA g (offs N))).star (midA 3 (.slice la n lc) L))) wr)) ∨ (v = .int .i64 1 ∧ Hid (Has w [] (((heapA hb ws kd dsG).star (trA tb hb k (ys1))).star (((rheapA mb ws kd dsG).star (brA g (ys1))).star (midA 3 (.slice la n lc) L))) wr)) ∨ (v = .int .i64 2 ∧ Hid (Has w [] (((heapA hb ws kd dsG).star (trA tb hb k (ys2))).star (((rheapA mb ws kd dsG).star (brA g (ys2))).star (midA 3 (.slice la n lc) L))) wr))) (fun v _ => 2 - (intOf v).toNat)
  case atStart => exact .inl ⟨rfl, HX4.out⟩
  case round =>
    clear HX4
    rcases hrel with ⟨rfl, HX⟩ | ⟨rfl, HX⟩ | ⟨rfl, HX⟩
    · go_wp2_with fail
      refine (some_any la n lc L ro p pc BR 6 _ (HX.out.snd.snd.mint HLI.out) HLl.out (HA.out.keep HX.out.K (by simp)) (by omega) (by omega) hp63).mono ?_
      rw [HXE.out.1]
      rintro e w5 ⟨v5, m5, rfl, hown5, hK5⟩
      obtain ⟨xa, xac, rfl, hxn, hX5⟩ := HX.out.listed hK5 hown5 HXE.out.2.2
      rw [HXE.out.2.1]
      have HX5 := hid hX5
      have HNN := hid hxn
      clear hX5 hown5 hK5 HX hxn
      go_wp2_with fail
      refine (tmark xa qx xac Lx _ HX5.out.assoc (fun _ _ h => h.snd.snd.list) HXE.out.2.1 (by omega) HM.out.1 HT.out.1).mono ?_
      rintro e w6 ⟨rfl, hX6⟩
      have HX6 := hid hX6.turnR
      clear hX6 HX5
      go_wp2_with fail
      refine (rmark N xa qx xac Lx _ HX6.out HN.out.2.1 (HX6.out.snd.snd.fst.list) HXE.out.2.1 (by omega) HNN.out HM.out.1 HT.out.1 HCR.out.1 HCR.out.2).mono ?_
      rintro e w7 ⟨rfl, hX7⟩
      have HX7 := (show Hid (Has w [] (((heapA hb ws kd dsG).star (trA tb hb k (ys1))).star (((rheapA mb ws kd dsG).star (brA g (ys1))).star (midA 3 (.slice la n lc) L))) w7) from hX7.turnB)
      clear hX7 HX6
      go_wp2_with fail
      refine (tall _ HX7.out.fst.snd).mono ?_
      rintro e w8 ⟨v8, m8, rfl, hown8, hK8⟩
      obtain ⟨ta, tc, rfl, _, hX8⟩ := HX7.out.listed hK8 hown8 (marksL_in ys1 (by rw [HN.out.2.2.1]; exact hN2))
      have HX8 := hid hX8
      clear hX8 hown8 hK8 HX7
      go_wp2_with fail
      refine (rall N _ HX8.out.fst.snd.fst.snd.brow HN.out.2.2.1 hN2).mono ?_
      rintro e w9 ⟨v9, m9, rfl, hown9, hK9⟩
      obtain ⟨ra, rc9, rfl, _, hX9⟩ := HX8.out.listed hK9 hown9 (marksL_in ys1 (by rw [HN.out.2.2.1]; exact hN2))
      have HX9 := hid hX9
      clear hX9 hown9 hK9 HX8
      obtain ⟨ln, hln⟩ : ∃ ln, (marksL ys1).length = ln := ⟨_, rfl⟩
      have HLN := (show Hid ((marksL ys1).length = ln ∧ ln ≤ 1000000) from ⟨hln, by have := marksL_count ys1; have := cntA_le ys1; have := HN.out.2.2.1; omega⟩)
      rw [hln]
      clear hln
      go_wp2_with fail
      refine (same_eq ta ra ln tc rc9 (marksL ys1) _ HX9.out.fst.snd.list HX9.out.snd.list HLN.out.1 HLN.out.2).mono ?_
      rintro e w10 ⟨rfl, hK10⟩
      have HX10 := (show Hid (Has w [] (((heapA hb ws kd dsG).star (trA tb hb k (ys1))).star (((rheapA mb ws kd dsG).star (brA g (ys1))).star (midA 3 (.slice la n lc) L))) w10) from (HX9.out.keep0 hK10).fst.fst)
      clear hK10 HX9 HLN
      go_wp2_with fail
      refine (tdeep _ HX10.out.fst.snd).mono ?_
      rintro e w11 ⟨d, rfl, hd11, hK11⟩
      have HX11 := hid (HX10.out.keep0 hK11)
      have hdd : decide ((k : Int) < (d : Int)) = false := decide_eq_false (by omega)
      clear hK11 HX10
      go_wp2_with fail
      refine (tdeep _ HX11.out.fst.snd).mono ?_
      rintro e w12 ⟨d2, rfl, hd12, hK12⟩
      have HX12 := hid (HX11.out.keep0 hK12)
      have hdd2 : decide ((d2 : Int) < 0) = false := decide_eq_false (by omega)
      clear hK12 HX11
      go_wp2_with fail
      go_roundw
      case rel => exact .inr (.inl ⟨rfl, HX12.out⟩)
      case measure => simp [intOf]
    · go_wp2_with fail
      refine (some_any la n lc L ro p pc BR 6 _ (HX.out.snd.snd.mint HLI.out) HLl.out (HA.out.keep HX.out.K (by simp)) (by omega) (by omega) hp63).mono ?_
      rw [HXE.out.1]
      rintro e w5 ⟨v5, m5, rfl, hown5, hK5⟩
      obtain ⟨xa, xac, rfl, _, _⟩ := HX.out.listed hK5 hown5 HXE.out.2.2
      rw [HXE.out.2.1]
      have HX4 := hid (HX.out.keep0 hK5)
      clear hown5 hK5 HX
      go_wp2_with fail
      refine (some_any la n lc L mo r rc BM 4 _ (HX4.out.snd.snd.mint HLI.out) HLl.out (HB.out.keep HX4.out.K (by simp)) (by omega) (by omega) hr63).mono ?_
      rw [HYE.out.1]
      rintro e w6 ⟨v6, m6, rfl, hown6, hK6⟩
      obtain ⟨ya, yac, rfl, hxn, hX5⟩ := HX4.out.listed hK6 hown6 HYE.out.2.2
      rw [HYE.out.2.1]
      have HX5 := hid hX5
      have HNN := hid hxn
      clear hX5 hown6 hK6 HX4 hxn
      go_wp2_with fail
      refine (tmark ya qy yac Ly _ HX5.out.assoc (fun _ _ h => h.snd.snd.list) HYE.out.2.1 (by omega) HM.out.2.1 HT.out.2).mono ?_
      rintro e w6 ⟨rfl, hX6⟩
      have HX6 := hid hX6.turnR
      clear hX6 HX5
      go_wp2_with fail
      refine (rmark N ya qy yac Ly _ HX6.out HN.out.2.2.1 (HX6.out.snd.snd.fst.list) HYE.out.2.1 (by omega) HNN.out HM.out.2.1 HT.out.2 HCR.out.1 HCR.out.2).mono ?_
      rintro e w7 ⟨rfl, hX7⟩
      have HX7 := (show Hid (Has w [] (((heapA hb ws kd dsG).star (trA tb hb k (ys2))).star (((rheapA mb ws kd dsG).star (brA g (ys2))).star (midA 3 (.slice la n lc) L))) w7) from hX7.turnB)
      clear hX7 HX6
      go_wp2_with fail
      refine (tall _ HX7.out.fst.snd).mono ?_
      rintro e w8 ⟨v8, m8, rfl, hown8, hK8⟩
      obtain ⟨ta, tc, rfl, _, hX8⟩ := HX7.out.listed hK8 hown8 (marksL_in ys2 (by rw [HN.out.2.2.2]; exact hN2))
      have HX8 := hid hX8
      clear hX8 hown8 hK8 HX7
      go_wp2_with fail
      refine (rall N _ HX8.out.fst.snd.fst.snd.brow HN.out.2.2.2 hN2).mono ?_
      rintro e w9 ⟨v9, m9, rfl, hown9, hK9⟩
      obtain ⟨ra, rc9, rfl, _, hX9⟩ := HX8.out.listed hK9 hown9 (marksL_in ys2 (by rw [HN.out.2.2.2]; exact hN2))
      have HX9 := hid hX9
      clear hX9 hown9 hK9 HX8
      obtain ⟨ln, hln⟩ : ∃ ln, (marksL ys2).length = ln := ⟨_, rfl⟩
      have HLN := (show Hid ((marksL ys2).length = ln ∧ ln ≤ 1000000) from ⟨hln, by have := marksL_count ys2; have := cntA_le ys2; have := HN.out.2.2.2; omega⟩)
      rw [hln]
      clear hln
      go_wp2_with fail
      refine (same_eq ta ra ln tc rc9 (marksL ys2) _ HX9.out.fst.snd.list HX9.out.snd.list HLN.out.1 HLN.out.2).mono ?_
      rintro e w10 ⟨rfl, hK10⟩
      have HX10 := (show Hid (Has w [] (((heapA hb ws kd dsG).star (trA tb hb k (ys2))).star (((rheapA mb ws kd dsG).star (brA g (ys2))).star (midA 3 (.slice la n lc) L))) w10) from (HX9.out.keep0 hK10).fst.fst)
      clear hK10 HX9 HLN
      go_wp2_with fail
      refine (tdeep _ HX10.out.fst.snd).mono ?_
      rintro e w11 ⟨d, rfl, hd11, hK11⟩
      have HX11 := hid (HX10.out.keep0 hK11)
      have hdd : decide ((k : Int) < (d : Int)) = false := decide_eq_false (by omega)
      clear hK11 HX10
      go_wp2_with fail
      refine (tdeep _ HX11.out.fst.snd).mono ?_
      rintro e w12 ⟨d2, rfl, hd12, hK12⟩
      have HX12 := hid (HX11.out.keep0 hK12)
      have hdd2 : decide ((d2 : Int) < 0) = false := decide_eq_false (by omega)
      clear hK12 HX11
      go_wp2_with fail
      go_roundw
      case rel => exact .inr (.inr ⟨rfl, HX12.out⟩)
      case measure => simp [intOf]
    · go_wp2_with fail
      go_loopw [19] (fun v wq => ∃ j : Nat, v = .int .i64 j ∧ j ≤ n ∧ Hid (Has w [] (((heapA hb ws kd dsG).star (trA tb hb k (ys2))).star (((rheapA mb ws kd dsG).star (brA g (ys2))).star (midA 3 (.slice la n lc) L))) wq)) (fun v _ => n - (intOf v).toNat)
      case atStart => exact ⟨0, rfl, by omega, HX.out⟩
      case round =>
        obtain ⟨j, rfl, hj, HX2⟩ := hrel
        clear HX
        by_cases hlt : j < n
        · have hd : decide ((j : Int) < (n : Int)) = true := decide_eq_true (by omega)
          obtain ⟨lb, lo, rfl, hlb, hcl⟩ := (HX2.out.snd.snd.mint HLI.out).cells (by rw [HLl.out]; omega)
          have cj := hcl j (by rw [HLl.out]; exact hlt)
          rw [(HAG.out j hlt).1] at cj
          have haN := (HAG.out j hlt).2
          have hbr := HX2.out.snd.fst.snd.brow
          have cm := hbr.cell (i := A j) (by rw [HN.out.2.2.2]; exact haN)
          obtain ⟨bv, hbv⟩ : ∃ bv, ys2[A j]?.getD false = bv := ⟨_, rfl⟩
          have HON := (show Hid (onM ys2 (A j : Int) = bv) from by show _ = _; rw [onM_nat]; exact hbv)
          rw [hbv] at cm
          have HCC := (show Hid (∀ wz, Keep [] wr wz → wz.cell? ⟨lb, lo + j, none⟩ = some (.int .i64 (A j : Int)) ∧ wz.cell? ⟨g, A j, none⟩ = some (.bool bv)) from fun wz K => ⟨(K.cell hlb (by simp) _).trans cj, (K.cell hbr.lt (by simp) _).trans cm⟩)
          clear hcl hbv hbr
          generalize A j = a at *
          go_upto_region 23 with fail
          go_region_held3 (fun wz => wz.cell? ⟨lb, lo + j, none⟩ = some (.int .i64 (a : Int)) ∧ wz.cell? ⟨g, a, none⟩ = some (.bool bv)) (go_keep) (first | (go_at_call 16; refine (tmarked (a : Int) _ (HX2.out.keep0 (Keep.drew [] wr)).fst.snd).mono ?_; rw [HON.out]; rintro e w9 ⟨rfl, hK9⟩; have hKa := (Keep.drew [] wr).trans hK9; obtain ⟨m1, m2⟩ := HCC.out _ hKa; have HX9 := hid (HX2.out.keep0 hKa); clear hK9 hKa cj cm))
          all_goals cases bv
          all_goals go_wp2_with fail
          all_goals go_roundw
          all_goals first
            | exact ⟨j + 1, by go_num, by omega, HX9⟩
            | (simp [intOf]; omega)
        · have hd : decide ((j : Int) < (n : Int)) = false := decide_eq_false (by omega)
          obtain ⟨on, hon⟩ : ∃ on, (eachK kd).length = on := ⟨_, rfl⟩
          have HON := (show Hid ((eachK kd).length = on) from hon)
          have hon2 : on ≤ 1000000 := by
            have h1 : (eachK kd).length ≤ 32 * kd.length := HZ.out.2.wf.each_len kd.length
            have h2 := HZ.out.2.wf.len2
            omega
          clear hon
          go_wp2_with fail
          refine (oobjects _ HX2.out.fst.fst).mono ?_
          rw [HON.out]
          rintro e w4 ⟨va, vc, vs, rfl, hO4, hvs, hK4⟩
          have HO4 := (show Hid (ObjL w4 va on (vs.map OV.rv) ∧ (vs.map OV.rv).map RV.o = objsK kd ws) from ⟨hO4.read (objs_ok HZ.out.2 hvs), by rw [← hvs, List.map_map]; rfl⟩)
          have HX4 := hid (HX2.out.keep0 hK4)
          clear hO4 hvs hK4 HX2
          go_wp2_with fail
          refine (robjects _ HX4.out.snd.fst.fst).mono ?_
          rw [HON.out]
          rintro e w5 ⟨vb, vd, us5, rfl, hO5, hvs5, hK5⟩
          have HO5 := (show Hid (ObjL w5 va on (vs.map OV.rv) ∧ ObjL w5 vb on us5 ∧ (vs.map OV.rv).map RV.o = us5.map RV.o) from ⟨HO4.out.1.keep0 hK5, hO5, HO4.out.2.trans hvs5.symm⟩)
          have HX5 := hid (HX4.out.keep0 hK5)
          clear hO5 hvs5 hK5 HX4 HO4
          go_wp2_with fail
          refine (sameObjs va vb on vc vd _ us5 _ HO5.out.1 HO5.out.2.1 HO5.out.2.2 hon2).mono ?_
          rintro e w6 ⟨rfl, hK6⟩
          have HX6 := hid (HX5.out.keep0 hK6)
          clear hK6 HX5 HO5
          go_wp2_with fail
          refine (tmarked 0 _ HX6.out.fst.snd).mono ?_
          rw [HZ.out.1]
          rintro e w7 ⟨rfl, hK7⟩
          have HX7 := hid (HX6.out.keep0 hK7)
          clear hK7 HX6
          go_wp2_with fail
          refine (tmarked (-1) _ HX7.out.fst.snd).mono ?_
          rw [onM_neg ys2 (by omega)]
          rintro e w8 ⟨rfl, hK8⟩
          have HX8 := hid (HX7.out.keep0 hK8)
          clear hK8 HX7
          go_wp2_with (first | (go_at_call 20; refine (awake17_any _).mono ?_; rintro e w18 ⟨rfl, hK18⟩))
          go_ret
          exact ⟨rfl, HX8.out.K.trans hK18⟩
theorem walk (o0 : Option Addr) (l0 c0 : Nat) (A0 : Nat → Nat) (o1 : Option Addr) (l1 c1 : Nat) (A1 : Nat → Nat) (o2 : Option Addr) (l2 c2 : Nat) (A2 : Nat → Nat) (a3 : Int) (b0 : l0 ≤ 9223372036854775807) (b1 : l1 ≤ 9223372036854775807) (b2 : l2 ≤ 9223372036854775807) (w3 : (Lit.int .u16 a3).wf = true) (w : World) (u0 : U8At w o0 l0 A0) (u1 : U8At w o1 l1 A1) (u2 : U8At w o2 l2 A2) :
    Calls Tryz.prog 3 #[.slice o0 l0 c0, .slice o1 l1 c1, .slice o2 l2 c2, .int .u16 a3] w fun e w' => e = .returned (.bool true) ∧ Keep [] w w' := by
  have h3 := bounds_u16 w3
  obtain ⟨nn, rfl⟩ : ∃ n : Nat, a3 = n := ⟨a3.toNat, by omega⟩
  obtain ⟨t64, ht64⟩ : ∃ r : Nat, (nn : Int) % 64 = r := ⟨((nn : Int) % 64).toNat, by omega⟩
  exact mgraph_any o0 l0 c0 _ A0 o1 l1 c1 A1 o2 l2 c2 A2 nn t64 (1 + t64) w rfl u0 u1 u2 b0 b1 b2 (by omega) ht64 (by omega) (by omega) (by omega)

end Go.Proofs.YtgpidokklhjfdaaGreat.markGraph
