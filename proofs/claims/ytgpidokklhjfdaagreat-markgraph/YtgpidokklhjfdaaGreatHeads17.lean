/-
  The heads of gloaminglaw17, by numbers.
-/
import Derived.Test.YtgpidokklhjfdaaGreatGraphF
import Derived.Test.YtgpidokklhjfdaaGreatWide
import Derived.Test.YtgpidokklhjfdaaGreatPart7
import Derived.Deep.CutRange
import Derived.Deep.CutBlock
import Derived.Deep.RegionLaw
namespace Go.Proofs.YtgpidokklhjfdaaGreat
open Go.RowKit

theorem Tryz.infoHead17 : (Tryz.prog.info? 68).map (fun i => (i.zero, i.size, i.bytes)) = some (some (.agg #[.int .i64 0, .int .i64 0, .int .i64 0, .bool false]), 4, 32) := by kernel_rfl
/-- The heads, cell by cell. -/
def hG (B : Nat → Nat) (i : Nat) : List Value := [.int .i64 (kG B i), .int .i64 (cG B i), .int .i64 (lG B i), .bool false]
def hsG (B : Nat → Nat) (q : Nat) : List (List Value) := (List.range q).map (hG B)
theorem hsG_length (B : Nat → Nat) (q : Nat) : (hsG B q).length = q := by simp [hsG]
theorem hsG_snoc (B : Nat → Nat) (q : Nat) : (hsG B (q + 1)).flatten = (hsG B q).flatten ++ hG B q := by simp [hsG, List.range_succ]
theorem hsG_each (B : Nat → Nat) (q : Nat) : ∀ v, v ∈ hsG B q → v.length = 4 := by
  intro v hv
  obtain ⟨i, _, rfl⟩ := List.mem_map.1 hv
  rfl
theorem hsG_get (B : Nat → Nat) (q i : Nat) (h : i < q) : (hsG B q)[i]? = some (hG B i) := by simp [hsG, h]
theorem hG_one (B : Nat → Nat) (i : Nat) : ∀ u, u ∈ hG B i → u.oneCell' = true := by
  intro u hu
  simp [hG] at hu
  rcases hu with rfl | rfl | rfl | rfl <;> rfl
theorem own_shape {w : World} {base n : Nat} {e : TypeId} {size : Nat} {v : Value} {xs : List Value} (h : w.ownsRow base e size v n xs) : ∃ va vc, v = .slice va n vc := by
  rcases h.2 with ⟨rfl, h0⟩ | ⟨g, cap, cur, h1, _⟩
  · subst h0; exact ⟨none, 0, rfl⟩
  · exact ⟨_, _, h1⟩
def hdB (k c l : Int) : Obj := .cells #[.int .i64 k, .int .i64 c, .int .i64 l, .bool false] 68 (0, 0)
theorem hdB_cells {w : World} {bx : Nat} {k c l : Int} (h : w.heap[bx]? = some (hdB k c l)) : (w.cell? ⟨bx, 0, none⟩ = some (.int .i64 k) ∧ w.frozen? ⟨bx, 0, none⟩ = false) ∧ (w.cell? ⟨bx, 1, none⟩ = some (.int .i64 c) ∧ w.frozen? ⟨bx, 1, none⟩ = false) ∧ (w.cell? ⟨bx, 2, none⟩ = some (.int .i64 l) ∧ w.frozen? ⟨bx, 2, none⟩ = false) ∧ (w.cell? ⟨bx, 3, none⟩ = some (.bool false) ∧ w.frozen? ⟨bx, 3, none⟩ = false) := by
  unfold hdB at h
  refine ⟨⟨?_, ?_⟩, ⟨?_, ?_⟩, ⟨?_, ?_⟩, ⟨?_, ?_⟩⟩ <;> simp [World.cell?, World.frozen?, h]
theorem hdB_put {w : World} {bx : Nat} {k c l c' l' : Int} (h : w.heap[bx]? = some (hdB k c l)) : ((w.setCell ⟨bx, 1, none⟩ (.int .i64 c')).setCell ⟨bx, 2, none⟩ (.int .i64 l')).heap[bx]? = some (hdB k c' l') ∧ Keep [bx] w ((w.setCell ⟨bx, 1, none⟩ (.int .i64 c')).setCell ⟨bx, 2, none⟩ (.int .i64 l')) := by
  refine ⟨?_, (Keep.setCell (S := [bx]) w (a := ⟨bx, 1, none⟩) _ (by simp)).trans (Keep.setCell (S := [bx]) _ (a := ⟨bx, 2, none⟩) _ (by simp))⟩
  have h1 := heap_setCell_same w bx 1 _ _ (.int .i64 c') h
  have h2 := heap_setCell_same _ bx 2 _ _ (.int .i64 l') h1
  simpa [hdB] using h2

set_option maxRecDepth 100000 in
set_option maxHeartbeats 6400000 in
theorem heads17 (no : Option Addr) (m nc : Nat) (B : Nat → Nat) (w : World) (hU : U8At w no m B) (hm63 : m ≤ 9223372036854775807) :
    Calls Tryz.prog 24 #[.slice no m nc] w fun e w' => ∃ (va : Option Addr) (vc : Nat), e = .returned (.slice va (min m 24) vc) ∧ w'.ownsRow w.heap.size 68 4 (.slice va (min m 24) vc) (min m 24) (hsG B (min m 24)).flatten ∧ Keep [] w w' := by
  obtain ⟨i0, hi, hz0, hz1, hz2⟩ := info_parts Tryz.infoHead17
  have hI : Hid (Tryz.prog.info? 68 = some i0 ∧ i0.zero = some (.agg #[.int .i64 0, .int .i64 0, .int .i64 0, .bool false]) ∧ i0.size = 4 ∧ i0.bytes = 32) := ⟨hi, hz0, hz1, hz2⟩
  have HU := hid hU
  clear hi hz0 hz1 hz2 hU
  go_enter Tryz.func24, Tryz.ntmps24
  go_wp2_with fail
  go_loopw [3, 4] (fun v i wr => ∃ (j vc : Nat) (va : Option Addr), v = .slice va j vc ∧ j ≤ m ∧ j ≤ 24 ∧ i = .int .i64 j ∧ Hid (wr.ownsRow w.heap.size 68 4 (.slice va j vc) j (hsG B j).flatten) ∧ Hid (Keep [] w wr)) (fun _ i _ => 24 - (intOf i).toNat)
  case atStart => exact ⟨0, 0, none, rfl, by omega, by omega, rfl, World.ownsRow_nil _ _ _ _, Keep.refl _ _⟩
  case round =>
    obtain ⟨j, vc, va, rfl, hjm, hjo, rfl, HO, HK⟩ := hrel
    by_cases hlt : j < m ∧ j < 24
    · obtain ⟨hlm, hlo⟩ := hlt
      have d1 : decide ((j : Int) < (m : Int)) = true := decide_eq_true (by omega)
      have d2 : decide ((j : Int) < (24 : Int)) = true := decide_eq_true (by omega)
      obtain ⟨nb, no', rfl, hnb, hcn⟩ := HU.out.cells (by omega)
      have HNB := (show Hid (∀ wz, Keep [] wr wz → wz.cell? ⟨nb, no' + j, none⟩ = some (.int .u8 (B j))) from fun wz K => ((HK.out.trans K).cell hnb (by simp) (no' + j)).trans (hcn j hlm))
      have hB := HU.out.lt j
      have HS := hid (hsG_snoc B j)
      have HH := (show Hid (hG B j = [.int .i64 (kG B j), .int .i64 (cG B j), .int .i64 (lG B j), .bool false]) from rfl)
      obtain ⟨b0, hb0⟩ : ∃ b0, B j = b0 := ⟨_, rfl⟩
      have HKG := (show Hid (kG B j = 1 + ((b0 % 4 : Nat) : Int)) from by show _ = _; unfold kG; rw [hb0])
      have HCG := (show Hid (cG B j = if b0 % 4 = 0 then 1 else if b0 % 4 = 3 then 1 + ((b0 / 4 % 3 : Nat) : Int) else 0) from by show _ = _; unfold cG; rw [hb0])
      have HLG := (show Hid (lG B j = if b0 % 4 = 0 then 3 else if b0 % 4 = 3 then 5 else 1 + ((b0 / 4 % 5 : Nat) : Int)) from by show _ = _; unfold lG; rw [hb0])
      rw [hb0] at HNB hB
      obtain ⟨t, ht⟩ : ∃ t, b0 % 4 = t := ⟨_, rfl⟩
      obtain ⟨u, hu⟩ : ∃ u, b0 / 4 = u := ⟨_, rfl⟩
      obtain ⟨s, hs⟩ : ∃ s, u % 5 = s := ⟨_, rfl⟩
      obtain ⟨r, hr⟩ : ∃ r, u % 3 = r := ⟨_, rfl⟩
      have ht1 : (b0 : Int) % 4 = t := by omega
      have hu1 : (b0 : Int) / 4 = u := by omega
      have hs1 : (u : Int) % 5 = s := by omega
      have hr1 : (u : Int) % 3 = r := by omega
      have ht2 : (b0 : Int).tmod 4 = t := by rw [Int.tmod_eq_emod_of_nonneg (by omega)]; exact ht1
      have hu2 : (b0 : Int).tdiv 4 = u := by rw [Int.tdiv_eq_ediv_of_nonneg (by omega)]; exact hu1
      have hs2 : (u : Int).tmod 5 = s := by rw [Int.tmod_eq_emod_of_nonneg (by omega)]; exact hs1
      have hr2 : (u : Int).tmod 3 = r := by rw [Int.tmod_eq_emod_of_nonneg (by omega)]; exact hr1
      have ht4 : t < 4 := by omega
      have hs5 : s < 5 := by omega
      have hr3 : r < 3 := by omega
      rw [ht] at HKG HCG HLG
      rw [hu, hr] at HCG
      rw [hu, hs] at HLG
      clear hcn hb0 ht hu hs hr
      go_upto_region 5 with fail
      go_cut [5] from 16 to 31 (fun v wz => ∃ bx : Nat, v = .pointer (some ⟨bx, 0, none⟩) ∧ Hid (wr.heap.size ≤ bx ∧ Keep [] wr wz ∧ wz.heap[bx]? = some (hdB (1 + (t : Int)) 0 (1 + (s : Int)))))
      case first =>
        have k1 : wr.drew.cell? ⟨nb, no' + j, none⟩ = some (.int .u8 b0) := HNB.out _ (Keep.drew [] _)
        have k2 : ∀ o, (wr.alloc o).drew.cell? ⟨nb, no' + j, none⟩ = some (.int .u8 b0) := fun o => HNB.out _ ((Keep.alloc [] _ o).trans (Keep.drew [] _))
        go_region
        have hx := heap_alloc_new wr (hdB (1 + (t : Int)) 0 (1 + (s : Int)))
        clear k1 k2
        go_wp2_with fail
        go_meet
        exact ⟨wr.heap.size, rfl, Nat.le_refl _, (Keep.alloc [] wr _).trans (Keep.drew [] _), hx⟩
      case rest =>
        obtain ⟨bx, rfl, HB⟩ := hcut
        obtain ⟨w6, rfl⟩ : ∃ w6, w6 = wc := ⟨_, rfl⟩
        obtain ⟨hbx, hK6, hx6⟩ := HB.out
        have HK6 := hid hK6
        have HBX := hid hbx
        obtain ⟨⟨y0, z0⟩, ⟨y1, z1⟩, ⟨y2, z2⟩, _⟩ := hdB_cells hx6
        have HX6 := hid hx6
        clear HB hbx hK6 hx6
        go_upto_block 2 with fail
        go_cut [] from 34 to 34 (fun wz => Hid (Keep [] wr wz ∧ wz.heap[bx]? = some (hdB (kG B j) (cG B j) (lG B j))))
        case first =>
          have HKF := (show Hid (∀ w7, Keep [bx] w6 w7 → Keep [] wr w7) from fun w7 K => ((HK6.out.mono (T := [bx]) (by simp)).trans K).drop (by intro k hk hkw; simp at hk; have := HBX.out; omega))
          have hm := HNB.out w6 HK6.out
          rcases (show t = 0 ∨ t = 3 ∨ (t = 1 ∨ t = 2) by omega) with rfl | rfl | h12
          · have hp := hdB_put (c' := 1) (l' := 3) HX6.out
            have HP := hid hp
            clear hp
            go_wp2_with fail
            go_meet
            refine (show Hid _ from ⟨HKF.out _ HP.out.2, ?_⟩)
            rw [HKG.out, HCG.out, HLG.out]
            exact HP.out.1
          · have hp := hdB_put (c' := 1 + (r : Int)) (l' := 5) HX6.out
            have HP := hid hp
            clear hp
            go_wp2_with fail
            go_meet
            refine (show Hid _ from ⟨HKF.out _ HP.out.2, ?_⟩)
            rw [HKG.out, HCG.out, HLG.out]
            exact HP.out.1
          · have h1 : ((1 + (t : Int)) == 1) = false := by rw [beq_eq_false_iff_ne]; omega
            have h4 : ((1 + (t : Int)) == 4) = false := by rw [beq_eq_false_iff_ne]; omega
            go_wp2_with fail
            go_meet
            refine (show Hid _ from ⟨HK6.out, ?_⟩)
            rw [HKG.out, HCG.out, HLG.out, if_neg (by omega), if_neg (by omega), if_neg (by omega), if_neg (by omega)]
            exact HX6.out
        case rest =>
          obtain ⟨w7, rfl⟩ : ∃ w7, w7 = wc := ⟨_, rfl⟩
          obtain ⟨hK7, hx7⟩ := hcut.out
          obtain ⟨⟨x0, _⟩, ⟨x1, _⟩, ⟨x2, _⟩, ⟨x3, _⟩⟩ := hdB_cells hx7
          have HK7 := hid hK7
          have hws := HK.out.size
          have hws7 := hK7.size
          clear hcut hK7 hx7 HK6 HX6 y0 y1 y2 z0 z1 z2
          go_wp2_with (at_builtin; refine wpList_append_own _ rfl (.tmp 50) (.tmp 52) 64 rfl w.heap.size 68 i0 (.agg #[.int .i64 0, .int .i64 0, .int .i64 0, .bool false]) 4 32 Tryz.underlying64 hI.out.1 hI.out.2.1 hI.out.2.2.1 hI.out.2.2.2 rfl (by decide) (.slice va j vc) j _ rfl ((own_keep HO.out HK7.out (by simp)).alloc _) ⟨w7.heap.size, 0, none⟩ 1 1 (hG B j) rfl rfl (World.news_of_block (heap_alloc_new w7 _)) (hG_one B j) (by unfold maxLen; omega) (by omega) (by simp; omega) ?_; intro v8 w8 hown8 hgrow8 hnil8; have hK8 := hid (((HK.out.trans HK7.out).trans (Keep.alloc [] w7 _)).grown hgrow8 (own_block HO.out)); rw [← HS.out] at hown8; obtain ⟨va8, vc8, rfl⟩ := own_shape hown8; have HO8 := hid hown8; clear hown8 hgrow8 hnil8)
          go_roundw
          case rel => exact ⟨j + 1, vc8, va8, rfl, by omega, by omega, by go_num, HO8, hK8⟩
          case measure => simp [intOf]; omega
    · have hmin : min m 24 = j := by omega
      by_cases hlm : j < m
      · have d1 : decide ((j : Int) < (m : Int)) = true := decide_eq_true (by omega)
        have d2 : decide ((j : Int) < (24 : Int)) = false := decide_eq_false (by omega)
        go_wp2_with fail
        go_ret
        exact ⟨va, vc, by rw [hmin]; rfl, by rw [hmin]; exact HO.out, HK.out⟩
      · have d1 : decide ((j : Int) < (m : Int)) = false := decide_eq_false (by omega)
        go_wp2_with fail
        go_ret
        exact ⟨va, vc, by rw [hmin]; rfl, by rw [hmin]; exact HO.out, HK.out⟩

end Go.Proofs.YtgpidokklhjfdaaGreat
