/-
  MarkTwice answers true, whatever it is given.
-/
import Derived.Test.YtgpidokklhjfdaaMarks17
namespace Go.Proofs.Ytgpidokklhjfdaa.markTwice
open Go.RowKit
set_option maxRecDepth 100000 in
set_option maxHeartbeats 12800000 in
theorem twice_any (no : Option Addr) (m nc n : Nat) (B : Nat → Nat) (ao : Option Addr) (p pc : Nat) (BA : Nat → Nat) (bo : Option Addr) (r rc : Nat) (BB : Nat → Nat) (nn t5 k5 mm k16 : Nat) (w : World) (hn : min m 24 = n) (hU : U8At w no m B) (hA : U8At w ao p BA) (hB : U8At w bo r BB) (hm63 : m ≤ 9223372036854775807) (hp63 : p ≤ 9223372036854775807) (hr63 : r ≤ 9223372036854775807)
    (_ : nn < 256) (h5 : (nn : Int) % 5 = t5) (hk5 : 1 + (t5 : Int) = k5) (hmm : mm < 256) (hk16 : 1 + (mm : Int) * 16 = k16) (hk51 : 1 ≤ k5) (_ : k5 ≤ 5) :
    Calls Try.prog 4 #[.slice no m nc, .slice ao p pc, .slice bo r rc, .int .u8 nn, .int .u8 mm] w fun e w' => e = .returned (.bool true) ∧ Keep [] w w' := by
  obtain ⟨i0, hi, hz0, hz1, hz2⟩ := info_parts Try.infoInt17
  have hI : Hid (Try.prog.info? 3 = some i0 ∧ i0.zero = some (.int .i64 0) ∧ i0.size = 1 ∧ i0.bytes = 8) := ⟨hi, hz0, hz1, hz2⟩
  obtain ⟨W, K, A, hG⟩ := graph_ex B m n hU.lt (by omega)
  have hO := hG.ot n (Nat.le_refl _)
  have hGR := graph_any no m nc n B W K A w hn hG hU hm63
  have hn24 := hG.few
  have hLI := hG.bd
  have hLl := aL_length A n
  generalize gW B m n W A n = ws at *
  generalize K n = kd at *
  generalize aL A n = L at *
  obtain ⟨Lx, hLx⟩ : ∃ Lx, someL L n BA (min p 5) = Lx := ⟨_, rfl⟩
  obtain ⟨Ly, hLy⟩ : ∃ Ly, someL L n BB (min r 5) = Ly := ⟨_, rfl⟩
  obtain ⟨qx, hqx⟩ : ∃ qx, Lx.length = qx := ⟨_, rfl⟩
  obtain ⟨qy, hqy⟩ : ∃ qy, Ly.length = qy := ⟨_, rfl⟩
  have hqx5 : qx ≤ 5 := by rw [← hqx, ← hLx, someL_length]; omega
  have hqy5 : qy ≤ 5 := by rw [← hqy, ← hLy, someL_length]; omega
  have hxI : inR Lx := by rw [← hLx]; exact someL_in hLI hA.lt _
  have hyI : inR Ly := by rw [← hLy]; exact someL_in hLI hB.lt _
  have hOk : MOk kd ws dsG (offs ws.length) := MOk.offs
  obtain ⟨ys1, hT1⟩ := markT_ex hO.fine _ hOk.len Lx
  have hOk1 := hT1.ok hOk
  obtain ⟨ys2, hT2⟩ := markT_ex hO.fine _ hOk1.len Ly
  have hOk2 := hT2.ok hOk1
  obtain ⟨us, hT3⟩ := markT_ex hO.fine _ hOk.len (Ly ++ Lx)
  obtain rfl := hT1.two hT2 hT3
  have hT4 : MarkT kd ws dsG us Lx us := MarkT.again (xs := us) (fun x e => (hT3.iff x).2 (.inr (Reach.app.2 (.inr e)))) rfl
  have HGR := hid hGR
  have HA := hid hA
  have HB := hid hB
  have HLI := hid hLI
  have HLl := hid hLl
  have HXE := (show Hid (someL L n BA (min p 5) = Lx ∧ Lx.length = qx ∧ inR Lx) from ⟨hLx, hqx, hxI⟩)
  have HYE := (show Hid (someL L n BB (min r 5) = Ly ∧ Ly.length = qy ∧ inR Ly) from ⟨hLy, hqy, hyI⟩)
  have HM := (show Hid (MOk kd ws dsG (offs ws.length) ∧ MOk kd ws dsG ys1 ∧ MOk kd ws dsG us) from ⟨hOk, hOk1, hOk2⟩)
  have HUL := (show Hid (us.length ≤ 16384) from by show _ ≤ _; rw [hOk2.len]; have := hO.fine.len; have := hO.fine.wf.len2; omega)
  have HT := (show Hid (MarkT kd ws dsG (offs ws.length) Lx ys1 ∧ MarkT kd ws dsG ys1 Ly us ∧ MarkT kd ws dsG (offs ws.length) (Ly ++ Lx) us ∧ MarkT kd ws dsG us Lx us) from ⟨hT1, hT2, hT3, hT4⟩)
  clear hG hO hGR hU hA hB hLI hLl hLx hLy hqx hqy hxI hyI hOk hOk1 hOk2 hT1 hT2 hT3 hT4 hi hz0 hz1 hz2 hn
  go_enter Try.func4, Try.ntmps4
  go_wp2_with fail
  refine HGR.out.mono ?_
  rintro e w1 ⟨hb, la, lc, rfl, hX⟩
  have HX := hid hX
  clear hX HGR
  go_wp2_with fail
  refine (has_left_ex HX.out (fun F hF => tnew_yes k5 _ hF hk51 (by omega))).mono ?_
  rintro e w2 ⟨sb, rfl, hX2⟩
  have HX2 := hid hX2.assoc
  clear hX2 HX
  go_wp2_with fail
  refine (has_left_ex HX2.out (fun F hF => tnew_yes k16 _ hF (by omega) (by omega))).mono ?_
  rintro e w3 ⟨tb, rfl, hX3⟩
  have HX3 := hid hX3.swapST
  obtain ⟨_, _, cs, _⟩ := hX3.swapST.fst.snd.trb
  obtain ⟨_, _, ct, _⟩ := hX3.fst.snd.trb
  clear hX3 HX2
  go_wp2_with (first | (go_at_call 9; refine (err_any _ _).mono ?_; rintro e w' ⟨rfl, rfl⟩))
  refine (some_any la n lc L ao p pc BA 5 _ (HX3.out.snd.snd.mint HLI.out) HLl.out (HA.out.keep HX3.out.K (by simp)) (by omega) (by omega) hp63).mono ?_
  rw [HXE.out.1]
  rintro e w4 ⟨v4, m4, rfl, hown4, hK4⟩
  obtain ⟨xa, xc, rfl, hxn, hX4⟩ := HX3.out.listed hK4 hown4 HXE.out.2.2
  rw [HXE.out.2.1]
  have HX4 := hid hX4
  clear hX4 hown4 hK4 HX3 cs ct
  go_wp2_with fail
  refine (some_any la n lc L bo r rc BB 5 _ (HX4.out.fst.snd.snd.mint HLI.out) HLl.out (HB.out.keep HX4.out.K (by simp)) (by omega) (by omega) hr63).mono ?_
  rw [HYE.out.1]
  rintro e w5 ⟨v5, m5, rfl, hown5, hK5⟩
  obtain ⟨ya, yc, rfl, hyn, hX5⟩ := HX4.out.listed hK5 hown5 HYE.out.2.2
  rw [HYE.out.2.1]
  have HX5 := (show Hid (Has w [] (((heapA hb ws kd dsG).star (trA sb hb k5 (offs ws.length))).star ((trA tb hb k16 (offs ws.length)).star ((midA 3 (.slice la n lc) L).star ((listA xa Lx).star (listA ya Ly))))) w5) from
    (hX5.assoc.assoc.map (fun _ g => star_mono (fun _ g => star_assoc g) g)))
  clear hX5 hown5 hK5 HX4
  go_wp2_with fail
  refine (tmark xa qx xc Lx _ HX5.out (fun zs w' h => h.snd.snd.snd.fst.list) HXE.out.2.1 (by omega) HM.out.1 HT.out.1).mono ?_
  rintro e w6 ⟨rfl, hX6⟩
  have HX6 := hid hX6
  clear hX6 HX5
  go_wp2_with fail
  refine (tmark ya qy yc Ly _ HX6.out (fun zs w' h => h.snd.snd.snd.snd.list) HYE.out.2.1 (by omega) HM.out.2.1 HT.out.2.1).mono ?_
  rintro e w7 ⟨rfl, hX7⟩
  have HX7 := hid hX7.swapST
  clear hX7 HX6
  have HN := (show Hid ((xa = none → xc = 0) ∧ (ya = none → yc = 0)) from ⟨hxn, hyn⟩)
  have hnew : (w7.alloc (.cells #[] 3)).heap[w7.heap.size]? = some (.cells #[] 3) := heap_alloc_new _ _
  have HO := (show Hid ((w7.alloc (.cells #[] 3)).ownsRow w7.heap.size 3 1 (.slice (some ⟨w7.heap.size, 0, none⟩) 0 0) 0 (ints [])) from own_empty w7 3)
  have HXY := (show Hid (∀ wz, Keep [] w7 wz → IntsAt wz xa Lx ∧ IntsAt wz ya Ly) from fun wz K => ⟨(HX7.out.keep0 K).snd.snd.snd.fst.list, (HX7.out.keep0 K).snd.snd.snd.snd.list⟩)
  clear hxn hyn hnew
  go_wp2_with (first
    | (at_builtin; refine append_ints rfl (.tmp 88) (.tmp 89) 28 rfl w7.heap.size 3 i0 Try.underlying28 hI.out _ 0 [] Ly rfl HO.out ya qy yc HYE.out.2.1 rfl (HXY.out _ (Keep.alloc [] w7 _)).2 HN.out.2 (by omega) (by simp) ?_; intro v8 w8 hown8 hgrow8; rw [Nat.zero_add, List.nil_append] at hown8; have hK8 := (Keep.alloc [] w7 (.cells #[] 3)).grown hgrow8 (own_block HO.out); clear hgrow8)
    | (at_builtin; refine append_ints rfl (.tmp 90) (.tmp 91) 28 rfl w7.heap.size 3 i0 Try.underlying28 hI.out v8 qy Ly Lx rfl hown8 xa qx xc HXE.out.2.1 rfl (HXY.out _ hK8).1 HN.out.1 (by omega) hK8.size ?_; intro v9 w9 hown9 hgrow9; have hK9 := hK8.grown hgrow9 (own_block hown8); obtain ⟨va, vc, hv9, _, hX9⟩ := HX7.out.listed hK9 hown9 (inR_app HYE.out.2.2 HXE.out.2.2); rw [List.length_append, HYE.out.2.1, HXE.out.2.1] at hv9; subst hv9; have HX9 := hid hX9.assoc; clear hgrow9 hX9 hown9 hK9))
  refine (tmark va (qy + qx) vc (Ly ++ Lx) _ HX9.out (fun zs w' h => h.snd.snd.list) (by rw [List.length_append, HYE.out.2.1, HXE.out.2.1]) (by omega) HM.out.1 HT.out.2.2.1).mono ?_
  rintro e w10 ⟨rfl, hX10⟩
  have HX10 := hid hX10.assoc'.fst.swapST
  clear hX10 HX9 HX7 hown8 hK8 HXY HO HN
  go_wp2_with fail
  refine (tall _ HX10.out.fst.snd).mono ?_
  rintro e w11 ⟨v11, m11, rfl, hown11, hK11⟩
  obtain ⟨za, zc, rfl, _, hX11⟩ := HX10.out.listed hK11 hown11 (marksL_in us HUL.out)
  have HX11 := hid hX11.assoc
  clear hX11 hown11 hK11 HX10
  obtain ⟨ln, hln⟩ : ∃ ln, (marksL us).length = ln := ⟨_, rfl⟩
  have HLN := hid hln
  rw [hln]
  clear hln
  go_wp2_with fail
  refine (tmark xa qx xc Lx _ HX11.out (fun zs w' h => h.snd.fst.snd.snd.fst.list) HXE.out.2.1 (by omega) HM.out.2.2 HT.out.2.2.2).mono ?_
  rintro e w12 ⟨rfl, hX12⟩
  have HX12 := hid hX12
  clear hX12 HX11
  go_wp2_with fail
  refine (tmark none 0 0 [] _ HX12.out (fun _ _ _ => IntsAt.nil _ _) rfl (by omega) HM.out.2.2 (MarkT.nil _)).mono ?_
  rintro e w13 ⟨rfl, hX13⟩
  have HX13 := hid hX13
  clear hX13 HX12
  have HLB := (show Hid (ln ≤ 16384 ∧ cntA us = ln) from by
    have h1 := marksL_count us
    rw [HLN.out] at h1
    have h2 := cnt_le us us.length
    have h3 := HUL.out
    unfold cntA at h1 ⊢
    exact ⟨by omega, h1.symm⟩)
  go_wp2_with fail
  refine (tall _ HX13.out.snd.fst.fst).mono ?_
  rintro e w14 ⟨v14, m14, rfl, hown14, hK14⟩
  obtain ⟨ta, tc, rfl, _, hX14⟩ := HX13.out.listed hK14 hown14 (marksL_in us HUL.out)
  rw [HLN.out]
  have HX14 := hid hX14
  clear hX14 hown14 hK14 HX13
  go_wp2_with fail
  refine (same_eq za ta ln zc tc (marksL us) _ HX14.out.fst.snd.snd.list HX14.out.snd.list HLN.out (by have := HLB.out; omega)).mono ?_
  rintro e w15 ⟨rfl, hK15⟩
  have HX15 := hid (HX14.out.keep0 hK15)
  clear hK15 HX14
  go_wp2_with fail
  refine (tall _ HX15.out.fst.fst.snd).mono ?_
  rintro e w16 ⟨v16, m16, rfl, hown16, hK16⟩
  obtain ⟨sa, sc, rfl, _, hX16⟩ := HX15.out.listed hK16 hown16 (marksL_in us HUL.out)
  rw [HLN.out]
  have HX16 := hid hX16
  clear hX16 hown16 hK16 HX15
  go_wp2_with fail
  refine (same_eq sa za ln sc zc (marksL us) _ HX16.out.snd.list HX16.out.fst.fst.snd.snd.list HLN.out (by have := HLB.out; omega)).mono ?_
  rintro e w17 ⟨rfl, hK17⟩
  have HX17 := hid (HX16.out.keep0 hK17)
  obtain ⟨bb, bg, cs, hbits⟩ := HX17.out.fst.fst.fst.snd.trb
  have HBC := hid hbits
  have hcnt := HLB.out.2
  clear hK17 HX16 hbits
  go_wp2_with (first
    | (go_at_call 21; refine (bcount_any bb bg us _ HBC.out).mono ?_; rw [HLB.out.2]; rintro e w' ⟨rfl, rfl⟩)
    | (go_at_call 17; refine (awake17_any _).mono ?_; rintro e w18 ⟨rfl, hK18⟩))
  go_ret
  exact ⟨rfl, HX17.out.K.trans hK18⟩
theorem walk (o0 : Option Addr) (l0 c0 : Nat) (A0 : Nat → Nat) (o1 : Option Addr) (l1 c1 : Nat) (A1 : Nat → Nat) (o2 : Option Addr) (l2 c2 : Nat) (A2 : Nat → Nat) (a3 a4 : Int) (b0 : l0 ≤ 9223372036854775807) (b1 : l1 ≤ 9223372036854775807) (b2 : l2 ≤ 9223372036854775807) (w3 : (Lit.int .u8 a3).wf = true) (w4 : (Lit.int .u8 a4).wf = true) (w : World) (u0 : U8At w o0 l0 A0) (u1 : U8At w o1 l1 A1) (u2 : U8At w o2 l2 A2) :
    Calls Try.prog 4 #[.slice o0 l0 c0, .slice o1 l1 c1, .slice o2 l2 c2, .int .u8 a3, .int .u8 a4] w fun e w' => e = .returned (.bool true) ∧ Keep [] w w' := by
  have h3 := bounds_u8 w3
  have h4 := bounds_u8 w4
  obtain ⟨nn, rfl⟩ : ∃ n : Nat, a3 = n := ⟨a3.toNat, by omega⟩
  obtain ⟨mm, rfl⟩ : ∃ n : Nat, a4 = n := ⟨a4.toNat, by omega⟩
  obtain ⟨t5, ht5⟩ : ∃ r : Nat, (nn : Int) % 5 = r := ⟨((nn : Int) % 5).toNat, by omega⟩
  obtain ⟨k5, hk5⟩ : ∃ k : Nat, 1 + (t5 : Int) = k := ⟨1 + t5, by omega⟩
  obtain ⟨k16, hk16⟩ : ∃ k : Nat, 1 + (mm : Int) * 16 = k := ⟨1 + mm * 16, by omega⟩
  exact twice_any o0 l0 c0 _ A0 o1 l1 c1 A1 o2 l2 c2 A2 nn t5 k5 mm k16 w rfl u0 u1 u2 b0 b1 b2 (by omega) ht5 hk5 (by omega) hk16 (by omega) (by omega)

end Go.Proofs.Ytgpidokklhjfdaa.markTwice
