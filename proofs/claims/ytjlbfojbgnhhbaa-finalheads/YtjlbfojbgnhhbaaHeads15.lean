/-
  FinalHeads answers true, whatever it is given.
-/
import Derived.Test.YtjlbfojbgnhhbaaPart7
import Derived.Test.YtjlbfojbgnhhbaaPart2
namespace Go.Proofs.Ytjlbfojbgnhhbaa.finalHeads
open Go.RowKit

set_option maxRecDepth 100000 in
set_option maxHeartbeats 6400000 in
theorem heads_any (n s : Nat) (x : Int) (w : World) (_ : n < 256) (hs : (n : Int) % 5 = s) (hs5 : s < 5) (hx : inI x) :
    Calls Try.prog 5 #[.int .u8 n, .int .i64 x] w fun e w' => e = .returned (.bool true) ∧ Keep [] w w' := by
  obtain ⟨W, K, A, hC⟩ := gchain_ex (kkF 5) (ccF 5) (llF 5) (headF 5) 6 (by omega)
  obtain ⟨hP, hO1, hf1⟩ := hC.os.put s hs5 x hx
  have hH1 := hO1.head s hs5
  obtain ⟨ws2, hT, hO2, hf2⟩ := hO1.await2 s hs5 rfl
  have hH2 := hO2.head s hs5
  have hF2 := hO2.field s hs5
  rw [if_pos rfl] at hH2
  rw [hf2, hf1] at hF2
  have hb := hC.os.bd s (by omega)
  obtain ⟨a, ha⟩ : ∃ a, A s = a := ⟨_, rfl⟩
  have HAL := (show Hid ((aL A 6)[s]?.getD 0 = (a : Int)) from by show _ = _; rw [aL_get A 6 s (by omega), ha])
  rw [ha] at hP hH1 hT hH2 hF2 hb
  have HC := hid hC
  have HP := hid hP
  have HH1 := hid hH1
  have HT := hid hT
  have HH2 := hid hH2
  have HF2 := hid hF2
  have HXI := hid hx
  have HAI := (show Hid (inI (a : Int)) from ⟨by omega, by omega⟩)
  generalize (W (5 + 1)).set (a + 1) x = ws1 at *
  clear hC hP hO1 hf1 hH1 hT hO2 hf2 hH2 hF2 ha hx hb
  go_enter Try.func5, Try.ntmps5
  go_wp2_with fail
  refine (made15 5 HC.out (by omega) _).mono ?_
  rintro e w1 ⟨hb, fb, la, lc, rfl, _, hX⟩
  have HX := hid hX
  obtain ⟨lb, lo, rfl, hlb, hcs⟩ := hX.snd.list.cells (by rw [aL_length]; omega)
  have hc0 := hcs s (by rw [aL_length]; omega)
  rw [HAL.out] at hc0
  clear hcs hX
  go_wp2_with fail
  refine (has_left HX.out (fun F hF => has_pfheap hF (fun F hF => oput a 0 x 0 _ _ hF HP.out HXI.out))).mono ?_
  rintro e w2 ⟨rfl, hX2⟩
  have HX2 := hid hX2
  clear hX2 HX hc0 hs
  go_upto_region 7 with (first | (go_at_call 18; refine (ohead a 3 0 1 0 false _ HX2.out.fst.pfheap HH1.out).mono ?_; rintro e w3 ⟨rfl, hK3⟩))
  have hX3 := ((HX2.out.keep0 hK3).newB (hdO 3 0 1 false)).assoc
  unfold hdO at hX3
  generalize w3.alloc (.cells #[.int .i64 3, .int .i64 0, .int .i64 1, .bool false] 43) = w4 at *
  generalize w3.heap.size = ba at *
  have HX4 := (show Hid (Has w [] ((pfinA fb hb ws1 (K (5 + 1)) [] [] []).star ((listA (some ⟨lb, lo, none⟩) (aL A (5 + 1))).star (blockA ba (hdO 3 0 1 false)))) w4) from hX3)
  clear hX3 HX2 hK3
  go_wp2_with fail
  refine (has_left HX4.out (fun F hF => pfawait a 0 ws2 _ hF HT.out HAI.out (by simp))).mono ?_
  rintro e w5 ⟨rfl, hX5⟩
  have HX5 := hid hX5
  clear hX5 HX4
  go_upto_region 9 with (first | (go_at_call 18; refine (ohead a 3 0 1 0 true _ HX5.out.fst.pfheap HH2.out).mono ?_; rintro e w6 ⟨rfl, hK6⟩))
  have hX6 := ((HX5.out.keep0 hK6).newB (hdO 3 0 1 true)).assoc
  unfold hdO at hX6
  generalize w6.alloc (.cells #[.int .i64 3, .int .i64 0, .int .i64 1, .bool true] 43) = w7 at *
  generalize w6.heap.size = bb at *
  have HX7 := (show Hid (Has w [] ((pfinA fb hb ws2 (K (5 + 1)) [] [(a : Int)] []).star (((listA (some ⟨lb, lo, none⟩) (aL A (5 + 1))).star (blockA ba (hdO 3 0 1 false))).star (blockA bb (hdO 3 0 1 true)))) w7) from hX6)
  clear hX6 HX5 hK6
  go_wp2_with fail
  refine (pfpend (some ⟨w7.heap.size, 0, none⟩) 1 1 [(a : Int)] _ (HX7.out.newB (oneO a)).assoc (ints_block HAI.out) rfl (by simp) (by simp) (by simp)).mono ?_
  rw [show pendL [(a : Int)] [] [(a : Int)] = ([], [(a : Int)]) by simp [pendL, pend1, inL, withoutL]]
  rintro e w8 ⟨rfl, hX8⟩
  have HX8 := hid hX8
  clear hX8 HX7
  go_wp2_with fail
  refine (has_left HX8.out (fun F hF => pftake 0 a 0 [] _ hF (.yes 0 rfl (by simp)) inI_0 (by simp))).mono ?_
  rintro e w9 ⟨rfl, hX9⟩
  have HX9 := hid hX9
  clear hX9 HX8
  go_upto_region 12 with (first | (go_at_call 18; refine (ohead a 3 0 1 0 true _ HX9.out.fst.pfheap HH2.out).mono ?_; rintro e w10 ⟨rfl, hK10⟩))
  have hX10 := ((HX9.out.keep0 hK10).newB (hdO 3 0 1 true)).assoc
  unfold hdO at hX10
  generalize w10.alloc (.cells #[.int .i64 3, .int .i64 0, .int .i64 1, .bool true] 43) = w11 at *
  generalize w10.heap.size = bc at *
  have HX11 := hid hX10
  clear hX10 HX9 hK10
  go_upto_region 13 with (first | (go_at_call 19; refine (ofield a 0 x 0 _ HX11.out.fst.pfheap HF2.out).mono ?_; rintro e w12 ⟨rfl, hK12⟩))
  have hX12 := HX11.out.keep0 hK12
  have hya : w12.heap[ba]? = some (.cells #[.int .i64 3, .int .i64 0, .int .i64 1, .bool false] 43 (0, 0)) := hX12.snd.fst.fst.fst.snd.hd
  have hyb : w12.heap[bb]? = some (.cells #[.int .i64 3, .int .i64 0, .int .i64 1, .bool true] 43 (0, 0)) := hX12.snd.fst.fst.snd.hd
  have hyc : w12.heap[bc]? = some (.cells #[.int .i64 3, .int .i64 0, .int .i64 1, .bool true] 43 (0, 0)) := hX12.snd.snd.hd
  have HK12 := hid hX12.K
  clear HX11 hX12 hK12
  obtain ⟨p0, p1, p2, p3⟩ := four_cells hya
  have hKa := Keep.alloc [] w12 (.cells #[.int .i64 3, .int .i64 0, .int .i64 1, .bool true] 43)
  have hza := hKa.blk hya (by simp)
  have hzb := hKa.blk hyb (by simp)
  have hzc := hKa.blk hyc (by simp)
  have hzd := heap_alloc_new w12 (.cells #[.int .i64 3, .int .i64 0, .int .i64 1, .bool true] 43)
  have HK14 := hid (HK12.out.trans hKa)
  clear hya hyb hyc hKa HK12
  go_upto_region 15 with fail
  clear p0 p1 p2 p3
  generalize w12.alloc (.cells #[.int .i64 3, .int .i64 0, .int .i64 1, .bool true] 43) = w14 at *
  generalize w12.heap.size = bd at *
  obtain ⟨a0, a1, a2, a3⟩ := four_cells hza
  obtain ⟨b0, b1, b2, b3⟩ := four_cells hzb
  obtain ⟨c0, c1, c2, c3⟩ := four_cells hzc
  obtain ⟨d0, d1, d2, d3⟩ := four_cells hzd
  go_wp2_with (first | (go_at_call 7; refine (err_any _ _).mono ?_; rintro e w' ⟨rfl, rfl⟩) | (go_at_call 16; refine (awake15_any _).mono ?_; rintro e w15 ⟨rfl, hK15⟩))
  go_ret
  exact ⟨rfl, HK14.out.trans hK15⟩

end Go.Proofs.Ytjlbfojbgnhhbaa.finalHeads

namespace Go.Proofs.Ytjlbfojbgnhhbaa.finalHeads
theorem walk (a0 a1 : Int) (w0 : (Lit.int .u8 a0).wf = true) (w1 : (Lit.int .i64 a1).wf = true) (w : World) :
    Calls Try.prog 5 #[.int .u8 a0, .int .i64 a1] w fun e w' => e = .returned (.bool true) ∧ Keep [] w w' := by
  have h := bounds_u8 w0
  have h1 := bounds_i64 w1
  obtain ⟨n, rfl⟩ : ∃ n : Nat, a0 = n := ⟨a0.toNat, by omega⟩
  obtain ⟨s, hs⟩ : ∃ s : Nat, (n : Int) % 5 = s := ⟨((n : Int) % 5).toNat, by omega⟩
  exact heads_any n s a1 w (by omega) hs (by omega) ⟨by omega, by omega⟩
end Go.Proofs.Ytjlbfojbgnhhbaa.finalHeads
